/- A part of the proof. -/
import Derived.Test.YtapbglhjamddbaaGreatDoorKt
import Derived.Test.YtapbglhjamddbaaGreatDoorQaE
set_option linter.unusedSimpArgs false
set_option linter.unusedVariables false
namespace Go.Proofs.YtapbglhjamddbaaGreatDoor
open Go.RowKit Go.Deep
set_option maxRecDepth 100000
def AltP {α β:Type} (V:World) (p z:Nat) (T:List Tok) (k:Nat) (Q:α→Prop) (f:α→Rd β) (res:PR β):Prop:=(∃ x l,RO V p z T l k∧Q x∧f x l=res)∨∃ er a,res=.err er a∧RE V p z T er a
theorem AltP.outs {α β:Type} {S:Nat→Prop} {V V':World} {p z k:Nat} {T:List Tok} {Q Q':α→Prop} {f:α→Rd β} {res:PR β} (h:AltP V p z T k Q f res) (o:Out S V V') (hS:∀ j,S j→p<j) (hQ:∀ x,Q x→Q' x):AltP V' p z T k Q' f res:=by
 rcases h with ⟨x,l,h1,h2,h3⟩ |⟨er,a,h1,h2⟩
 ·exact .inl ⟨x,l,h1.outs o hS,hQ x h2,h3⟩
 ·exact .inr ⟨er,a,h1,h2.outs o hS⟩
theorem AltP.below {α β:Type} {V V':World} {p z k:Nat} {T:List Tok} {Q Q':α→Prop} {f:α→Rd β} {res:PR β} (h:AltP V p z T k Q f res) (hb:Below V.heap.size V V') (hQ:∀ x,Q x→Q' x):AltP V' p z T k Q' f res:=h.outs (Out.of (S:=fun _=>False) hb) (fun _ h=>h.elim) hQ
theorem AltP.mustW {α β:Type} {V:World} {p z k:Nat} {T:List Tok} {s:Bs} (hs:s∈lexWords) {Q:α→Prop} {f:α→Rd β} {res:PR β} (h:AltP V p z T k Q (fun x l=>need z s l (fun l=>f x l)) res) :
  Calls Tryz.prog 16 #[.pointer (some ⟨p,0,none⟩),.int .i64 1,.string (bsB s)] V (fun en w'=>en=.returned (.tuple #[])∧Out (fun j=>j=p) V w'∧AltP w' p z T k Q f res):=by
 rcases h with ⟨x,l,h1,h2,h3⟩ |⟨er,a,h1,h2⟩
 ·rcases h1.word hs with ⟨t,r2,rfl,h4,hc⟩ |⟨h4,hc⟩
  ·exact (rmust_yes p z k T t r2 1 (by decide) s V h1 hc).mono fun en w' ⟨a,b,c⟩=>⟨a,c,.inl ⟨x,r2,b,h2,by dsimp only at h3;unfold need at h3;rw[if_pos h4] at h3;exact h3⟩⟩
  ·exact (rmust_no p z k T l 1 (by decide) s V h1 hc).mono fun en w' ⟨a,b,c⟩=>⟨a,c,.inr ⟨7,hAt z l,by dsimp only at h3;unfold need at h3;rw[if_neg (by rw[h4];decide)] at h3;exact h3.symm,b⟩⟩
 ·exact (rmust_err p z T er a 1 (bsB s) V h2).mono fun en w' ⟨a1,b⟩=>⟨a1,Out.of b,.inr ⟨er,a,h1,h2.below b⟩⟩
theorem AltP.mayW {α β:Type} {V:World} {p z k:Nat} {T:List Tok} {s:Bs} (hs:s∈lexWords) {Q:α→Prop} {f g:α→Rd β} {res:PR β} (h:AltP V p z T k Q (fun x l=>if hSees s l=true then f x l.tail else g x l) res) :
  ∃ b,Calls Tryz.prog 15 #[.pointer (some ⟨p,0,none⟩),.string (bsB s)] V (fun en w'=>en=.returned (.bool b)∧Out (fun j=>j=p) V w'∧AltP w' p z T k Q (if b=true then f else g) res):=by
 rcases h with ⟨x,l,h1,h2,h3⟩ |⟨er,a,h1,h2⟩
 ·rcases h1.word hs with ⟨t,r2,rfl,h4,hc⟩ |⟨h4,hc⟩
  ·exact⟨true,(rword_yes p z k T t r2 s V h1 hc).mono fun en w' ⟨a,b,c⟩=>⟨a,c,.inl ⟨x,r2,b,h2,by dsimp only at h3;rw[if_pos h4] at h3;exact h3⟩⟩⟩
  ·exact⟨false,(rword_no p z k T l s V h1 hc).mono fun en w' ⟨a,b⟩=>⟨a,Out.of b,.inl ⟨x,l,h1.below b,h2,by dsimp only at h3;rw[if_neg (by rw[h4];decide)] at h3;exact h3⟩⟩⟩
 ·exact⟨false,(rword_err p z T er a (bsB s) V h2).mono fun en w' ⟨a1,b⟩=>⟨a1,Out.of b,.inr ⟨er,a,h1,h2.below b⟩⟩⟩
theorem St0.altp {α β:Type} {V:World} {p z k:Nat} {T:List Tok} {f:Rd β} {res:PR β} (x:α) {Q:α→Prop} (hQ:Q x) (h:St0 V p z T k f res):AltP V p z T k Q (fun _=>f) res:=by
 rcases h with ⟨l,h1,h2⟩ |⟨er,a,h1,h2⟩
 ·exact .inl ⟨x,l,h1,hQ,h2⟩
 ·exact .inr ⟨er,a,h1,h2⟩
theorem St0.mustW {β:Type} {V:World} {p z k:Nat} {T:List Tok} {s:Bs} (hs:s∈lexWords) {f:Rd β} {res:PR β} (h:St0 V p z T k (fun l=>need z s l f) res) :
  Calls Tryz.prog 16 #[.pointer (some ⟨p,0,none⟩),.int .i64 1,.string (bsB s)] V (fun en w'=>en=.returned (.tuple #[])∧Out (fun j=>j=p) V w'∧St0 w' p z T k f res):=by
 have h2:=AltP.mustW (α:=Unit) (Q:=fun _=>True) (f:=fun _=>f) hs (h.altp () trivial)
 refine h2.mono fun en w' ⟨a,b,c⟩=>⟨a,b,?_⟩
 rcases c with ⟨_,l,h1,_,h3⟩ |⟨er,a,h1,h2⟩
 ·exact .inl ⟨l,h1,h3⟩
 ·exact .inr ⟨er,a,h1,h2⟩
theorem bind_bind {α β γ:Type} (x:PR α) (f:α→Rd β) (g:β→Rd γ):(x.bind f).bind g=x.bind fun y r=>(f y r).bind g:=by cases x <;> rfl
theorem AltP.call {α β γ:Type} {V:World} {p z k:Nat} {T:List Tok} {Q:α→Prop} {one:Rd γ} {g:α→γ→Rd β} {res:PR β} (h:AltP V p z T k Q (fun x l=>(one l).bind (g x)) res) {f:Nat} {args:Array Value} {R:Nat→World→γ→Value→Prop} {Sh:Value→Prop}
  (C:∀ res0,St0 V p z T k one res0→Calls Tryz.prog f args V (RAns R Sh p z T k res0 V)) :
  Calls Tryz.prog f args V (fun e V'=>Out (fun j=>j=p) V V'∧∃ v,e=.returned v∧Sh v∧AltP V' p z T k (fun xy:α × γ=>Q xy.1∧R V.heap.size V' xy.2 v) (fun xy=>g xy.1 xy.2) res):=by
 rcases h with ⟨x,l,h1,h2,h3⟩ |⟨er,a,h1,h2⟩
 ·refine (C (one l) (.inl ⟨l,h1,rfl⟩)).mono fun e V' hA=>?_
  dsimp only at h3
  cases hr:one l with
  | err er a =>
   obtain⟨hO,v,e1,hs,hE⟩:=hA.err hr
   exact⟨hO,v,e1,hs,.inr ⟨er,a,by rw[← h3,hr];rfl,hE⟩⟩
  | ok y r =>
   obtain⟨hO,v,e1,hs,hR,hRO⟩:=hA.ok hr
   exact⟨hO,v,e1,hs,.inl ⟨(x,y),r,hRO,⟨h2,hR⟩,by rw[← h3,hr];rfl⟩⟩
 ·refine (C (.err er a) (.inr ⟨er,a,rfl,h2⟩)).mono fun e V' hA=>?_
  obtain⟨hO,v,e1,hs,hE⟩:=hA.err rfl
  exact⟨hO,v,e1,hs,.inr ⟨er,a,h1,hE⟩⟩
theorem AltP.callL {α β γ:Type} {V:World} {p z k:Nat} {T:List Tok} {Q:α→Prop} {one:Rd γ} (hK:Keep one) {Pr:γ→Prop} (hPr:∀ l y r,one l=.ok y r→Pr y) {g:α→γ→Rd β} {res:PR β} (h:AltP V p z T k Q (fun x l=>(one l).bind (g x)) res) {f:Nat} {args:Array Value} {R:Nat→World→γ→Value→Prop} {Sh:Value→Prop}
  (C:∀ res0,St0 V p z T k one res0→Calls Tryz.prog f args V (RAns R Sh p z T k res0 V)) :
  Calls Tryz.prog f args V (fun e V'=>rleft V' p≤rleft V p∧Out (fun j=>j=p) V V'∧∃ v,e=.returned v∧Sh v∧AltP V' p z T k (fun xy:α × γ=>Q xy.1∧R V.heap.size V' xy.2 v∧Pr xy.2) (fun xy=>g xy.1 xy.2) res):=by
 rcases h with ⟨x,l,h1,h2,h3⟩ |⟨er,a,h1,h2⟩
 ·refine (C (one l) (.inl ⟨l,h1,rfl⟩)).mono fun e V' hA=>⟨by rw[h1.left];exact RAns.left hK hA,?_⟩
  dsimp only at h3
  cases hr:one l with
  | err er a =>
   obtain⟨hO,v,e1,hs,hE⟩:=hA.err hr
   exact⟨hO,v,e1,hs,.inr ⟨er,a,by rw[← h3,hr];rfl,hE⟩⟩
  | ok y r =>
   obtain⟨hO,v,e1,hs,hR,hRO⟩:=hA.ok hr
   exact⟨hO,v,e1,hs,.inl ⟨(x,y),r,hRO,⟨h2,hR,hPr l y r hr⟩,by rw[← h3,hr];rfl⟩⟩
 ·refine (C (.err er a) (.inr ⟨er,a,rfl,h2⟩)).mono fun e V' hA=>?_
  obtain⟨hO,v,e1,hs,hE⟩:=hA.err rfl
  exact⟨by rw[hE.left];omega,hO,v,e1,hs,.inr ⟨er,a,h1,hE⟩⟩
theorem bTable_room {z:Nat} {kind:Int} {n most:Nat} {l:List Tok} {f:Fr} {r:List Tok} (h:bTable z kind n most l=.ok f r):n≠most:=by
 cases l with
 | nil=>cases h
 | cons t l =>
  rw[bTable] at h
  split at h
  ·split at h
   ·cases h
   ·assumption
  ·cases h
theorem AltP.mapo {α α' β:Type} {S:Nat→Prop} {V V':World} {p z k:Nat} {T:List Tok} {Q:α→Prop} {Q':α'→Prop} {f:α→Rd β} {f':α'→Rd β} {res:PR β} (h:AltP V p z T k Q f res) (φ:α→α') (o:Out S V V') (hS:∀ j,S j→p<j) (hQ:∀ x,Q x→Q' (φ x)) (hf:∀ x l,Q x→f x l=f' (φ x) l):AltP V' p z T k Q' f' res:=by
 rcases h with ⟨x,l,h1,h2,h3⟩ |⟨er,a,h1,h2⟩
 ·exact .inl ⟨φ x,l,h1.outs o hS,hQ x h2,by rw[← hf x l h2];exact h3⟩
 ·exact .inr ⟨er,a,h1,h2.outs o hS⟩
def selK (z:Nat) (orr:Rd Ex) (d:Bool) (i:List It):Rd Sel:=fun r=>need z kwFrom r fun r2=>(bTables z orr r2).bind fun f r3=>(bWhere orr r3).bind fun w r4=>(bGroup z orr r4).map fun g=>⟨d,i,f,w,g⟩
def selF (z:Nat) (orr:Rd Ex) (d:Bool) (i:List It) (f:List Fr):Rd Sel:=fun r3=>(bWhere orr r3).bind fun w r4=>(bGroup z orr r4).map fun g=>⟨d,i,f,w,g⟩
def selO (z:Nat) (orr:Rd Ex) (d:Bool) (i:List It) (c o:List Fr):Rd Sel:=fun r=>(moreW kwLeft kwSemi (bOuter z orr) o r).bind fun o2=>selF z orr d i (c++o2)
def selN (z:Nat) (orr:Rd Ex) (d:Bool) (i:List It) (c:List Fr):Rd Sel:=fun r=>(moreW [44] kwJoin (bInner z orr) c r).bind fun c2=>selO z orr d i c2 []
theorem selK_eq (z:Nat) (orr:Rd Ex) (d:Bool) (i:List It):selK z orr d i=fun r=>need z kwFrom r fun r2=>(bTable z 0 0 4 r2).bind fun f=>selN z orr d i [f]:=by
 funext r
 unfold selK
 congr 1
 funext r2
 unfold bTables
 rw[bind_bind]
 congr 1
 funext f r3
 unfold selN
 rw[bind_bind]
 congr 1
 funext c r4
 unfold selO
 rw[map_bind,bind_bind]
 rfl
theorem on_eq {z:Nat} {orr:Rd Ex} {f:Fr} {r:List Tok}:need z kwOn r (fun r3=>(orr r3).map fun x=>{ f with on:=[x] })=(need z kwOn r fun r3=>(orr r3).map fun x=>[x]).bind fun xs r=>.ok { f with on:=xs } r:=by
 unfold need
 split
 ·dsimp only
  cases orr r.tail <;> rfl
 ·rfl
theorem join_eq {z:Nat} {orr:Rd Ex} {kind:Int} {n most:Nat} {t:Tok} {r:List Tok} (h5:hSees kwJoin (t :: r)=true):bJoin z orr kind n most (t :: r)=(bTable z kind n most r).bind fun f r2=>(need z kwOn r2 fun r3=>(orr r3).map fun x=>[x]).bind fun xs r=>.ok { f with on:=xs } r:=by
 unfold bJoin
 rw[need,if_pos h5]
 show (bTable z kind n most r).bind _=_
 congr 1
 funext f r2
 exact on_eq
theorem moreW_step {a b:Bs} {one:Nat→Rd Fr} (h1:∀ n,Shr (one n)) {acc:List Fr} {l:List Tok} (h:(hSees a l || hSees b l)=true):moreW a b one acc l=(one acc.length l).bind fun x r=>moreW a b one (acc++[x]) r:=by
 cases h2:one acc.length l with
 | err er p=>rw[moreW_err h h2];rfl
 | ok x r=>rw[moreW_some h1 h h2];rfl
theorem AltP.inner {α β:Type} {W:World} {p z k:Nat} {T:List Tok} {Q:α→Prop} {orr:Rd Ex} (hK:Shr orr) {c:α→List Fr} {g:α→List Fr→Rd β} {res:PR β} (h:AltP W p z T k Q (fun x l=>(moreW [44] kwJoin (bInner z orr) (c x) l).bind (g x)) res) :
  (∃ x t l,RO W p z T (t :: l) k∧rIs 6 [44] (t :: l)=true∧Q x∧(bTable z 0 (c x).length 4 l).bind (fun f r=>(moreW [44] kwJoin (bInner z orr) (c x++[f]) r).bind (g x))=res) ∨
  (∃ x t l,RO W p z T (t :: l) k∧rIs 6 [44] (t :: l)=false∧rIs 1 kwJoin (t :: l)=true∧Q x∧(bTable z 0 (c x).length 4 l).bind (fun f r=>(need z kwOn r fun r3=>(orr r3).map fun y=>[y]).bind fun xs r=>(moreW [44] kwJoin (bInner z orr) (c x++[{ f with on:=xs }]) r).bind (g x))=res) ∨
  (Calls Tryz.prog 30 #[.pointer (some ⟨p,0,none⟩),.string (bsB [44])] W (fun e w'=>e=.returned (.bool false)∧Below W.heap.size W w') ∧
   (∀ V,Below W.heap.size W V→Calls Tryz.prog 15 #[.pointer (some ⟨p,0,none⟩),.string (bsB kwJoin)] V (fun e w'=>e=.returned (.bool false)∧Below V.heap.size V w'))∧AltP W p z T k Q (fun x=>g x (c x)) res):=by
 rcases h with ⟨x,l,h1,h2,h3⟩ |⟨er,a,h1,h2⟩
 ·dsimp only at h3
  rcases h1.sign (s:=[44]) (by decide) with ⟨t,r,rfl,h4,hc⟩ |⟨h4,hc⟩
  ·refine .inl ⟨x,t,r,h1,hc,h2,?_⟩
   rw[← h3,moreW_step (fun n=>bInner_shr z hK n) (by rw[h4];rfl),bind_bind]
   unfold bInner
   rw[if_pos h4]
   rfl
  ·rcases h1.word (s:=kwJoin) (by decide) with ⟨t,r,rfl,h5,hc5⟩ |⟨h5,hc5⟩
   ·refine .inr (.inl ⟨x,t,r,h1,hc,hc5,h2,?_⟩)
    rw[← h3,moreW_step (fun n=>bInner_shr z hK n) (by rw[h5];simp),bind_bind]
    have e:bInner z orr (c x).length (t :: r)=(bTable z 0 (c x).length 4 r).bind fun f r2=>(need z kwOn r2 fun r3=>(orr r3).map fun x=>[x]).bind fun xs r=>.ok { f with on:=xs } r:=by
     unfold bInner
     rw[if_neg (by rw[h4];decide)]
     exact join_eq h5
    rw[e,bind_bind]
    congr 1
    funext f r2
    rw[bind_bind]
    rfl
   ·exact .inr (.inr ⟨rsign_no p z k T l [44] W h1 hc,fun V hb=>rword_no p z k T l kwJoin V (h1.below hb) hc5,.inl ⟨x,l,h1,h2,by rw[← h3,moreW_none (by rw[h4,h5];rfl)];rfl⟩⟩)
 ·exact .inr (.inr ⟨rsign_err p z T er a (bsB [44]) W h2,fun V hb=>rword_err p z T er a (bsB kwJoin) V (h2.below hb),.inr ⟨er,a,h1,h2⟩⟩)
theorem need_bind {α β:Type} {z:Nat} {s:Bs} {l:List Tok} {F:Rd α} {G:α→Rd β}:(need z s l F).bind G=need z s l fun l=>(F l).bind G:=by
 unfold need
 split <;> rfl
theorem AltP.outer {α β:Type} {W:World} {p z k:Nat} {T:List Tok} {Q:α→Prop} {orr:Rd Ex} (hK:Shr orr) {c:α→List Fr} {g:α→List Fr→Rd β} {res:PR β} (h:AltP W p z T k Q (fun x l=>(moreW kwLeft kwSemi (bOuter z orr) (c x) l).bind (g x)) res) :
  (∃ x t l,RO W p z T (t :: l) k∧rIs 1 kwLeft (t :: l)=true∧Q x∧need z kwJoin l (fun l=>(bTable z 1 (c x).length 2 l).bind (fun f r=>(need z kwOn r fun r3=>(orr r3).map fun y=>[y]).bind fun xs r=>(moreW kwLeft kwSemi (bOuter z orr) (c x++[{ f with on:=xs }]) r).bind (g x)))=res) ∨
  (∃ x t l,RO W p z T (t :: l) k∧rIs 1 kwLeft (t :: l)=false∧rIs 1 kwSemi (t :: l)=true∧Q x∧need z kwJoin l (fun l=>(bTable z 2 (c x).length 2 l).bind (fun f r=>(need z kwOn r fun r3=>(orr r3).map fun y=>[y]).bind fun xs r=>(moreW kwLeft kwSemi (bOuter z orr) (c x++[{ f with on:=xs }]) r).bind (g x)))=res) ∨
  (Calls Tryz.prog 15 #[.pointer (some ⟨p,0,none⟩),.string (bsB kwLeft)] W (fun e w'=>e=.returned (.bool false)∧Below W.heap.size W w') ∧
   (∀ V,Below W.heap.size W V→Calls Tryz.prog 15 #[.pointer (some ⟨p,0,none⟩),.string (bsB kwSemi)] V (fun e w'=>e=.returned (.bool false)∧Below V.heap.size V w'))∧AltP W p z T k Q (fun x=>g x (c x)) res):=by
 have key:∀ (x:α) (kind:Int) (l:List Tok),(bJoin z orr kind (c x).length 2 l).bind (fun f r=>(moreW kwLeft kwSemi (bOuter z orr) (c x++[f]) r).bind (g x))=need z kwJoin l (fun l=>(bTable z kind (c x).length 2 l).bind (fun f r=>(need z kwOn r fun r3=>(orr r3).map fun y=>[y]).bind fun xs r=>(moreW kwLeft kwSemi (bOuter z orr) (c x++[{ f with on:=xs }]) r).bind (g x))):=fun x kind l=>by
  unfold bJoin
  rw[need_bind]
  congr 1
  funext l2
  rw[bind_bind]
  congr 1
  funext f r2
  rw[on_eq,bind_bind]
  rfl
 rcases h with ⟨x,l,h1,h2,h3⟩ |⟨er,a,h1,h2⟩
 ·dsimp only at h3
  rcases h1.word (s:=kwLeft) (by decide) with ⟨t,r,rfl,h4,hc⟩ |⟨h4,hc⟩
  ·refine .inl ⟨x,t,r,h1,hc,h2,?_⟩
   rw[← h3,moreW_step (fun n=>bOuter_shr z hK n) (by rw[h4];rfl),bind_bind,← key]
   have e:bOuter z orr (c x).length (t :: r)=bJoin z orr 1 (c x).length 2 r:=by unfold bOuter;rw[if_pos h4];rfl
   rw[e]
  ·rcases h1.word (s:=kwSemi) (by decide) with ⟨t,r,rfl,h5,hc5⟩ |⟨h5,hc5⟩
   ·refine .inr (.inl ⟨x,t,r,h1,hc,hc5,h2,?_⟩)
    rw[← h3,moreW_step (fun n=>bOuter_shr z hK n) (by rw[h5];simp),bind_bind,← key]
    have e:bOuter z orr (c x).length (t :: r)=bJoin z orr 2 (c x).length 2 r:=by unfold bOuter;rw[if_neg (by rw[h4];decide),need,if_pos h5];rfl
    rw[e]
   ·exact .inr (.inr ⟨rword_no p z k T l kwLeft W h1 hc,fun V hb=>rword_no p z k T l kwSemi V (h1.below hb) hc5,.inl ⟨x,l,h1,h2,by rw[← h3,moreW_none (by rw[h4,h5];rfl)];rfl⟩⟩)
 ·exact .inr (.inr ⟨rword_err p z T er a (bsB kwLeft) W h2,fun V hb=>rword_err p z T er a (bsB kwSemi) V (h2.below hb),.inr ⟨er,a,h1,h2⟩⟩)
theorem AltP.mustWL {α β:Type} {V:World} {p z k:Nat} {T:List Tok} {s:Bs} (hs:s∈lexWords) {Q:α→Prop} {f:α→Rd β} {res:PR β} (h:AltP V p z T k Q (fun x l=>need z s l (fun l=>f x l)) res) :
  Calls Tryz.prog 16 #[.pointer (some ⟨p,0,none⟩),.int .i64 1,.string (bsB s)] V (fun en w'=>rleft w' p≤rleft V p∧en=.returned (.tuple #[])∧Out (fun j=>j=p) V w'∧AltP w' p z T k Q f res):=by
 rcases h with ⟨x,l,h1,h2,h3⟩ |⟨er,a,h1,h2⟩
 ·rcases h1.word hs with ⟨t,r2,rfl,h4,hc⟩ |⟨h4,hc⟩
  ·exact (rmust_yes p z k T t r2 1 (by decide) s V h1 hc).mono fun en w' ⟨a,b,c⟩=>⟨by rw[b.left,h1.left];simp,a,c,.inl ⟨x,r2,b,h2,by dsimp only at h3;unfold need at h3;rw[if_pos h4] at h3;exact h3⟩⟩
  ·exact (rmust_no p z k T l 1 (by decide) s V h1 hc).mono fun en w' ⟨a,b,c⟩=>⟨by rw[b.left];omega,a,c,.inr ⟨7,hAt z l,by dsimp only at h3;unfold need at h3;rw[if_neg (by rw[h4];decide)] at h3;exact h3.symm,b⟩⟩
 ·exact (rmust_err p z T er a 1 (bsB s) V h2).mono fun en w' ⟨a1,b⟩=>⟨by rw[(h2.below b).left];omega,a1,Out.of b,.inr ⟨er,a,h1,h2.below b⟩⟩
theorem St0.dist {V:World} {p z k:Nat} {T:List Tok} {orr:Rd Ex} {res:PR Sel} (h:St0 V p z T k (bSel2 z orr) res) :
  ∃ b,Calls Tryz.prog 15 #[.pointer (some ⟨p,0,none⟩),.string (bsB kwDistinct)] V (fun en w'=>en=.returned (.bool b)∧Out (fun j=>j=p) V w'∧St0 w' p z T k (fun l=>(listP z (bItem z orr) l).bind (selK z orr b)) res):=by
 rcases h with ⟨l,h1,h2⟩ |⟨er,a,h1,h2⟩
 ·rcases h1.word (s:=kwDistinct) (by decide) with ⟨t,r2,rfl,h4,hc⟩ |⟨h4,hc⟩
  ·exact⟨true,(rword_yes p z k T t r2 kwDistinct V h1 hc).mono fun en w' ⟨a,b,c⟩=>⟨a,c,.inl ⟨r2,b,by rw[← h2];unfold bSel2 bDist;rw[if_pos h4];rfl⟩⟩⟩
  ·exact⟨false,(rword_no p z k T l kwDistinct V h1 hc).mono fun en w' ⟨a,b⟩=>⟨a,Out.of b,.inl ⟨l,h1.below b,by rw[← h2];unfold bSel2 bDist;rw[if_neg (by rw[h4];decide)];rfl⟩⟩⟩
 ·exact⟨false,(rword_err p z T er a (bsB kwDistinct) V h2).mono fun en w' ⟨a1,b⟩=>⟨a1,Out.of b,.inr ⟨er,a,h1,h2.below b⟩⟩⟩
abbrev zSel5:List Value:=[.bool false,.slice none 0 0,.slice none 0 0,.slice none 0 0,.slice none 0 0]
structure SB (w0 V:World) (p gs gr:Nat) (d:Bool) (vi vf vw vg:Value):Prop where
 box:BkA V gs [.bool d,vi,vf,vw,vg]
 res:BkA V gr zSel5
 out:Out (fun j=>j=p∨w0.heap.size≤j) w0 V
theorem SB.outs {S:Nat→Prop} {w0 V V':World} {p gs gr:Nat} {d:Bool} {vi vf vw vg:Value} (h:SB w0 V p gs gr d vi vf vw vg) (o:Out S V V') (h1:¬ S gs) (h2:¬ S gr) (h3:∀ j,S j→j=p∨w0.heap.size≤j):SB w0 V' p gs gr d vi vf vw vg :=
 ⟨h.box.outs o h1,h.res.outs o h2,h.out.trans (o.mono fun j _ hj=>h3 j hj)⟩
theorem SB.below {w0 V V':World} {p gs gr:Nat} {d:Bool} {vi vf vw vg:Value} (h:SB w0 V p gs gr d vi vf vw vg) (hb:Below V.heap.size V V'):SB w0 V' p gs gr d vi vf vw vg:=h.outs (Out.of (S:=fun _=>False) hb) id id fun _ h=>h.elim
theorem SB.read {w0 V V':World} {p gs gr:Nat} {d:Bool} {vi vf vw vg:Value} (h:SB w0 V p gs gr d vi vf vw vg) (o:Out (fun j=>j=p) V V') (h1:p<gs) (h2:p<gr):SB w0 V' p gs gr d vi vf vw vg:=h.outs o (by omega) (by omega) fun j hj=>.inl hj
theorem SB.set {w0 V:World} {p gs gr:Nat} {d:Bool} {vi vf vw vg:Value} (h:SB w0 V p gs gr d vi vf vw vg) (hg:gs≠gr) (hw:w0.heap.size≤gs) (k:Nat) (hk:k<5) (v:Value):BkA (V.setCell ⟨gs,k,none⟩ v) gs ([.bool d,vi,vf,vw,vg].set k v)∧BkA (V.setCell ⟨gs,k,none⟩ v) gr zSel5∧Out (fun j=>j=p∨w0.heap.size≤j) w0 (V.setCell ⟨gs,k,none⟩ v) :=
 ⟨h.box.set1 k hk v,h.res.outs (out_p V gs k v) (by omega),h.out.trans ((out_p V gs k v).mono fun j _ (hj:j=gs)=>.inr (by omega))⟩
def Part {α ρ:Type} (el:El α ρ) (V:World) (gs hi:Nat) (L:List α) (v:Value):Prop:=∃ q n c,v=.slice q n c∧n=L.length∧n≤c∧LsM el V (fun g=>gs<g∧g<hi) q L
theorem Part.of {α ρ:Type} {el:El α ρ} (hT:el.Ok) {V:World} {gs:Nat} {L:List α} {v:Value} (h:LsO el V (gs+1) v L):Part el V gs V.heap.size L v:=by
 obtain⟨q,c,e,h1,-,h2⟩:=h.read hT
 exact⟨q,_,c,e,rfl,h1,h2.on hT (Nat.le_refl _) (fun _ _ _=>rfl) (fun g hg hl=>⟨by have:gs+1≤g:=hg;omega,hl⟩)⟩
theorem Part.outs {α ρ:Type} {el:El α ρ} (hT:el.Ok) {S:Nat→Prop} {V V':World} {gs hi:Nat} {L:List α} {v:Value} (h:Part el V gs hi L v) (o:Out S V V') (hS:∀ j,S j→j≤gs∨hi≤j):Part el V' gs hi L v:=by
 obtain⟨q,n,c,e,h0,h1,h2⟩:=h
 exact⟨q,n,c,e,h0,h1,h2.on hT o.size (fun g hg hl=>o.block g hl fun hs=>by have:=hS g hs;have:=hg.1;have:=hg.2;omega) (fun _ h _=>h)⟩
def Rel {α ρ:Type} (el:El α ρ) (V:World) (b:Nat) (v:Value) (K:List ρ) (L:List α):Prop:=K.length=L.length∧∀ (j:Nat) (r:ρ) (x:α),K[j]?=some r→L[j]?=some x→el.rel V (fun g=>b≤g∧v.ownBlock≠some g) x r
theorem Rel.outs {α ρ:Type} {el:El α ρ} (hT:el.Ok) {S:Nat→Prop} {V V':World} {b:Nat} {v:Value} {K:List ρ} {L:List α} (h:Rel el V b v K L) (o:Out S V V') (hS:∀ j,S j→j<V.heap.size→¬ b≤j):Rel el V' b v K L :=
 ⟨h.1,fun j r x hr hx=>hT.on o.size (fun g hg hl=>o.block g hl fun hs=>hS g hs hl hg.1) (fun _ h _=>h) x r (h.2 j r x hr hx)⟩
theorem from_grown {V Y U M M3:World} {gs bf:Nat} {v v2:Value} {K:List RawF} {c:List Fr} {x:Fr} {r:RawF} (hr:Rel elF Y bf v K c) (hv:∀ k,v.ownBlock=some k→k<V.heap.size) (hx:elF.rel Y (fun g=>V.heap.size≤g) x r) (hbV:bf≤V.heap.size) (hVY:V.heap.size≤Y.heap.size)
  (hU:Below Y.heap.size Y U) (ho:OwnF M bf 40 4 RawF.cells v2 (K++[r])) (hO:Out (fun k=>v.ownBlock=some k) U M) (hat:v2.ownBlock=v.ownBlock∨v2.ownBlock=some U.heap.size) (o3:Out (fun j=>j=gs) M M3) (hg:gs<bf):LsO elF M3 bf v2 (c++[x]):=by
 have hrU:=hr.outs elF_ok (Out.of (S:=fun _=>False) hU) (fun _ h=>h.elim)
 have hxU:=elF_ok.on (Q:=fun g=>V.heap.size≤g) hU.size (fun g _ hl=>hU.block g hl) (fun g hg _=>hg) x r hx
 exact (LsO.grown elF_ok (W:=V) (K:=K) hrU.1 hrU.2 hv hxU hbV (Nat.le_trans hVY hU.size) ho hO hat).outs elF_ok o3 fun j (hj:j=gs) _=>by omega
theorem Part.ofL {α ρ:Type} {el:El α ρ} (hT:el.Ok) {V:World} {gs b:Nat} (hb:gs<b) {L:List α} {v:Value} (h:LsO el V b v L):Part el V gs V.heap.size L v:=by
 obtain⟨q,c,e,h1,-,h2⟩:=h.read hT
 exact⟨q,_,c,e,rfl,h1,h2.on hT (Nat.le_refl _) (fun _ _ _=>rfl) (fun g hg hl=>⟨Nat.lt_of_lt_of_le hb hg,hl⟩)⟩
theorem Part.wide {α ρ:Type} {el:El α ρ} (hT:el.Ok) {V:World} {gs hi hi':Nat} {L:List α} {v:Value} (h:Part el V gs hi L v) (hh:hi≤hi'):Part el V gs hi' L v:=by
 obtain⟨q,n,c,e,h0,h1,h2⟩:=h
 exact⟨q,n,c,e,h0,h1,h2.on hT (Nat.le_refl _) (fun _ _ _=>rfl) (fun g hg _=>⟨hg.1,Nat.lt_of_lt_of_le hg.2 hh⟩)⟩
def PartX (V:World) (gs hi:Nat) (L:List Ex) (v:Value):Prop:=∃ q n c,v=.slice q n c∧n=L.length∧n≤c∧ExLP V (fun g=>gs<g∧g<hi) q 0 L
theorem PartX.outs {S:Nat→Prop} {V V':World} {gs hi hi':Nat} {L:List Ex} {v:Value} (h:PartX V gs hi L v) (o:Out S V V') (hS:∀ j,S j→j≤gs∨hi≤j) (hh:hi≤hi'):PartX V' gs hi' L v:=by
 obtain⟨q,n,c,e,h0,h1,h2⟩:=h
 exact⟨q,n,c,e,h0,h1,ExLP.on o.size (fun g hg hl=>o.block g hl fun hs=>by have:=hS g hs;have:=hg.1;have:=hg.2;omega) (fun g hg _=>⟨hg.1,Nat.lt_of_lt_of_le hg.2 hh⟩) _ _ _ h2⟩
theorem PartX.nil (V:World) (gs hi:Nat):PartX V gs hi [] (.slice none 0 0):=⟨none,0,0,rfl,rfl,Nat.le_refl _,by rw[ExLP];trivial⟩
def selG (z:Nat) (orr:Rd Ex) (d:Bool) (i:List It) (f:List Fr) (w:List Ex):Rd Sel:=fun r4=>(bGroup z orr r4).map fun g=>⟨d,i,f,w,g⟩
theorem selF_eq (z:Nat) (orr:Rd Ex) (d:Bool) (i:List It) (f:List Fr):selF z orr d i f=fun l=>if hSees kwWhere l=true then (fun l=>(orr l).bind fun y=>selG z orr d i f [y]) l.tail else selG z orr d i f [] l:=by
 funext l
 unfold selF bWhere
 split
 ·dsimp only
  cases orr l.tail <;> rfl
 ·rfl
theorem selG_eq (z:Nat) (orr:Rd Ex) (d:Bool) (i:List It) (f:List Fr) (w:List Ex):selG z orr d i f w=fun l=>if hSees kwGroup l=true then (fun l=>need z kwBy l fun l=>(listP z orr l).bind fun g r=>.ok ⟨d,i,f,w,g⟩ r) l.tail else .ok ⟨d,i,f,w,[]⟩ l:=by
 funext l
 unfold selG bGroup
 split
 ·dsimp only
  unfold need
  split
  ·exact map_bind _ _
  ·rfl
 ·rfl
theorem sel_rel {V V':World} {b gs hi:Nat} {d:Bool} {x:Sel} {iq fq wq gq:Option Addr} {inn ic fn fc wn wc gn gc:Nat} (hb:b≤gs) (hg:∀ g,gs<g→g<V.heap.size→V'.heap[g]?=V.heap[g]?) (hs:V.heap.size≤V'.heap.size)
  (h:x.distinct=d∧Part elI V gs hi x.items (.slice iq inn ic)∧Part elF V gs hi x.froms (.slice fq fn fc)∧PartX V gs hi x.where_ (.slice wq wn wc)∧PartX V gs hi x.group (.slice gq gn gc)) :
  elS.rel V' (fun g=>b≤g) x ⟨d,⟨iq,inn,ic⟩,⟨fq,fn,fc⟩,⟨wq,wn,wc⟩,⟨gq,gn,gc⟩⟩:=by
 obtain⟨h0,⟨_,_,_,e1,a1,b1,c1⟩,⟨_,_,_,e2,a2,b2,c2⟩,⟨_,_,_,e3,a3,b3,c3⟩,⟨_,_,_,e4,a4,b4,c4⟩⟩:=h
 simp only[Value.slice.injEq] at e1 e2 e3 e4
 obtain⟨rfl,rfl,rfl⟩:=e1
 obtain⟨rfl,rfl,rfl⟩:=e2
 obtain⟨rfl,rfl,rfl⟩:=e3
 obtain⟨rfl,rfl,rfl⟩:=e4
 have hP:∀ g,(gs<g∧g<hi)→g<V.heap.size→V'.heap[g]?=V.heap[g]?:=fun g h hl=>hg g h.1 hl
 have hQ:∀ g,(gs<g∧g<hi)→g<V.heap.size→b≤g:=fun g h _=>by omega
 exact⟨h0.symm,⟨a1,b1,c1.on elI_ok hs hP hQ⟩,⟨a2,b2,c2.on elF_ok hs hP hQ⟩,⟨a3,b3,ExLP.on hs hP hQ _ _ _ c3⟩,⟨a4,b4,ExLP.on hs hP hQ _ _ _ c4⟩⟩
end Go.Proofs.YtapbglhjamddbaaGreatDoor
