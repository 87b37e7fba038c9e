/- A part of the proof. -/
import Derived.Test.YtapbglhjamddbaaGreatDoorKh
set_option linter.unusedSimpArgs false
set_option linter.unusedVariables false
namespace Go.Proofs.YtapbglhjamddbaaGreatDoor
open Go.RowKit Go.Deep
set_option maxRecDepth 100000
theorem RSt.setAA {w:World} {p z j er pl:Nat} {d:Int} {T:List Tok} (h:RSt w p z T j er pl d) (u:Value):RSt ((w.setCell ⟨p,1,none⟩ u).setCell ⟨p,1,none⟩ (.int .i64 (j:Int))) p z T j er pl d:=by
 obtain⟨q,c,h1,h2,h3,h4⟩:=h.cL
 have o:=out_p (w.setCell ⟨p,1,none⟩ u) p 1 (.int .i64 (j:Int))
 have o1:=out_p w p 1 u
 refine⟨⟨q,c,set_oth (set_oth h1 (by omega)) (by omega),h2,h3,(h.toks h4).imp fun g i t _ hg ht=>ht.keep (o.block g (Nat.lt_of_lt_of_le (Nat.lt_trans hg h.lt) o1.size) (by omega))⟩,cell_set_self (cell_set_self h.cA),set_oth (set_oth h.cZ (by omega)) (by omega),set_oth (set_oth h.cE (by omega)) (by omega),set_oth (set_oth h.cP (by omega)) (by omega),set_oth (set_oth h.cD (by omega)) (by omega),fun i=>by rw[World.frozen?_setCell,World.frozen?_setCell];exact h.fz i,Nat.lt_of_lt_of_le (Nat.lt_of_lt_of_le h.lt o1.size) o.size,h.jl,h.tk⟩
theorem RO.redo {w:World} {p z k:Nat} {T l:List Tok} (h:RO w p z T l k):∃ j:Nat,w.cell? ⟨p,1,none⟩=some (.int .i64 (j:Int))∧j≤400∧(∀ o,w.frozen? ⟨p,o,none⟩=false)∧p<w.heap.size∧w.cell? ⟨p,3,none⟩=some (.int .i64 0)∧RO ((w.setCell ⟨p,1,none⟩ (.int .i64 ((j+1:Nat):Int))).setCell ⟨p,1,none⟩ (.int .i64 (j:Int))) p z T l k:=by
 obtain⟨j,pl,e,hs⟩:=h.st
 exact⟨j,hs.cA,by have h1:=hs.tk.most;have h2:=hs.jl;omega,hs.fz,hs.lt,hs.cE,⟨j,pl,e,hs.setAA _⟩,h.ks⟩
def St0 {α:Type} (w:World) (p z:Nat) (T:List Tok) (k:Nat) (one:Rd α) (res:PR α):Prop:=(∃ l,RO w p z T l k∧one l=res)∨∃ er a,res=.err er a∧RE w p z T er a
theorem St0.outs {α:Type} {S:Nat→Prop} {w w':World} {p z k:Nat} {T:List Tok} {one:Rd α} {res:PR α} (h:St0 w p z T k one res) (o:Out S w w') (hS:∀ j,S j→p<j):St0 w' p z T k one res:=by
 rcases h with ⟨l,h1,h2⟩ |⟨er,a,h1,h2⟩
 ·exact .inl ⟨l,h1.outs o hS,h2⟩
 ·exact .inr ⟨er,a,h1,h2.outs o hS⟩
theorem St0.below {α:Type} {w w':World} {p z k:Nat} {T:List Tok} {one:Rd α} {res:PR α} (h:St0 w p z T k one res) (hb:Below w.heap.size w w'):St0 w' p z T k one res:=h.outs (Out.of (S:=fun _=>False) hb) fun _ h=>h.elim
theorem St0.lt {α:Type} {w:World} {p z k:Nat} {T:List Tok} {one:Rd α} {res:PR α} (h:St0 w p z T k one res):p<w.heap.size:=by
 rcases h with ⟨l,h1,h2⟩ |⟨er,a,h1,h2⟩
 ·exact h1.lt
 ·exact h2.lt
theorem St0.bind {α β:Type} {w:World} {p z k:Nat} {T:List Tok} {one:Rd α} {f:α→Rd β} {res:PR β} (h:St0 w p z T k (fun l=>(one l).bind f) res):∃ res0,St0 w p z T k one res0∧res=res0.bind f:=by
 rcases h with ⟨l,h1,h2⟩ |⟨er,a,h1,h2⟩
 ·exact⟨one l,.inl ⟨l,h1,rfl⟩,h2.symm⟩
 ·exact⟨.err er a,.inr ⟨er,a,rfl,h2⟩,h1⟩
abbrev RdE (f:Nat) (p z:Nat) (T:List Tok) (k:Nat) (one:Rd Ex):Prop:=∀ (res:PR Ex) (w:World),St0 w p z T k one res→Calls Tryz.prog f #[.pointer (some ⟨p,0,none⟩)] w (RAns ExV ShE p z T k res w)
def Alt {β:Type} (w:World) (p z:Nat) (T:List Tok) (k:Nat) (P:Nat→Prop) (r:RawE) (f:Ex→Rd β) (res:PR β):Prop:=(∃ e l,RO w p z T l k∧ExMP w P e r.cells∧f e l=res)∨∃ er a,res=.err er a∧RE w p z T er a
theorem Alt.outs {β:Type} {S:Nat→Prop} {w w':World} {p z k:Nat} {T:List Tok} {P Q:Nat→Prop} {r:RawE} {f:Ex→Rd β} {res:PR β} (h:Alt w p z T k P r f res) (o:Out S w w') (hS:∀ j,S j→p<j∧¬ P j) (hQ:∀ j,P j→j<w.heap.size→Q j):Alt w' p z T k Q r f res:=by
 rcases h with ⟨e,l,h1,h2,h3⟩ |⟨er,a,h1,h2⟩
 ·exact .inl ⟨e,l,h1.outs o fun j hj=>(hS j hj).1,ExMP.on o.size (fun j hj hl=>o.block j hl fun e=>(hS j e).2 hj) hQ _ _ h2,h3⟩
 ·exact .inr ⟨er,a,h1,h2.outs o fun j hj=>(hS j hj).1⟩
theorem Alt.below {β:Type} {w w':World} {p z k:Nat} {T:List Tok} {P Q:Nat→Prop} {r:RawE} {f:Ex→Rd β} {res:PR β} (h:Alt w p z T k P r f res) (hb:Below w.heap.size w w') (hQ:∀ j,P j→j<w.heap.size→Q j):Alt w' p z T k Q r f res:=h.outs (Out.of (S:=fun _=>False) hb) (fun _ h=>h.elim) hQ
theorem RAns.alt {s:PR Ex} {p z k:Nat} {T:List Tok} {w w':World} {e:Ending} (h:RAns ExV ShE p z T k s w e w') {β:Type} (f:Ex→Rd β):∃ r:RawE,e=.returned (Value.agg #[.int .i64 r.op,.int .i64 r.v.k,.int .i64 r.v.n,.string r.v.s,.int .i64 r.rel,.int .i64 r.col,.int .i64 r.n,.string r.s,.slice r.q r.len r.c])∧Out (fun j=>j=p) w w'∧Alt w' p z T k (fun j=>w.heap.size≤j) r f (s.bind f):=by
 obtain⟨hO,v,rfl,⟨r,rfl⟩,hm⟩:=h
 cases s with
 | err er a=>exact⟨r,rfl,hO,.inr ⟨er,a,rfl,hm⟩⟩
 | ok x l =>
  obtain⟨⟨r',hv,hx⟩,hR⟩:=hm
  exact⟨r',by rw[hv],hO,.inl ⟨x,l,hR,hx,rfl⟩⟩
theorem shE (r:RawE):ShE (Value.agg #[.int .i64 r.op,.int .i64 r.v.k,.int .i64 r.v.n,.string r.v.s,.int .i64 r.rel,.int .i64 r.col,.int .i64 r.n,.string r.s,.slice r.q r.len r.c]):=⟨r,rfl⟩
theorem Alt.ans {w V:World} {p z k:Nat} {T:List Tok} {P:Nat→Prop} {r:RawE} {res:PR Ex} (h:Alt V p z T k P r (fun e l=>.ok e l) res) (hO:Out (fun j=>j=p) w V) (hP:∀ j,P j→w.heap.size≤j):RAns ExV ShE p z T k res w (.returned (Value.agg #[.int .i64 r.op,.int .i64 r.v.k,.int .i64 r.v.n,.string r.v.s,.int .i64 r.rel,.int .i64 r.col,.int .i64 r.n,.string r.s,.slice r.q r.len r.c])) V:=by
 rcases h with ⟨e,l,h1,h2,rfl⟩ |⟨er,a,rfl,h2⟩
 ·exact⟨hO,_,rfl,shE r,⟨r,rfl,ExMP.on (Nat.le_refl _) (fun _ _ _=>rfl) (fun j hj _=>hP j hj) _ _ h2⟩,h1⟩
 ·exact⟨hO,_,rfl,shE r,h2⟩
theorem Alt.dec {β:Type} {w:World} {p z k:Nat} {T:List Tok} {P:Nat→Prop} {r:RawE} {f:Ex→Rd β} {res:PR β} (h:Alt w p z T (k+1) P r f res) (hp:¬ P p:=by intro h;have:=h.1;omega):∃ d,w.cell? ⟨p,5,none⟩=some (.int .i64 d)∧(∀ o,w.frozen? ⟨p,o,none⟩=false)∧p<w.heap.size∧Alt (w.setCell ⟨p,5,none⟩ (.int .i64 (wrap64 (d - 1)))) p z T k P r f res:=by
 rcases h with ⟨e,l,h1,h2,h3⟩ |⟨er,a,h1,h2⟩
 ·obtain⟨c,fz,lp,-,hm⟩:=h1.deep
  refine⟨_,c,fz,lp,.inl ⟨e,l,?_,ExMP.on (out_p w p 5 _).size (fun j hj hl=>(out_p w p 5 _).block j hl (fun e=>hp (by rw[← e];exact hj))) (fun _ h _=>h) _ _ h2,h3⟩⟩
  have hw:wrap64 (((k+1:Nat):Int) - 1)=(k:Int):=by have:=h1.ks;unfold wrap64;omega
  rw[hw]
  exact hm k (by have:=h1.ks;omega)
 ·obtain⟨d,c,fz,lp,-,hm⟩:=h2.deep
  exact⟨d,c,fz,lp,.inr ⟨er,a,h1,hm _⟩⟩
theorem sees_w {s:Bs} (hs:s∈lexWords) {z:Nat} {l:List Tok} (h:Toks z l):hSees s l=rIs 1 s l:=by
 cases l with
 | nil=>rfl
 | cons t r=>exact sees_word hs (h.wf t (List.mem_cons_self ..))
theorem sees_s {s:Bs} (hs:s ∉ lexWords) {z:Nat} {l:List Tok} (h:Toks z l):hSees s l=rIs 6 s l:=by
 cases l with
 | nil=>rfl
 | cons t r=>exact sees_sign hs (h.wf t (List.mem_cons_self ..))
theorem op1_none {s:Bs} {op:Int} {l:List Tok} (h:hSees s l=false):opOf [(s,op)] l=none:=by simp[opOf,h]
theorem op1_some {s:Bs} {op:Int} {l:List Tok} (h:hSees s l=true):opOf [(s,op)] l=some op:=by simp[opOf,h]
theorem chainW_step {one:Rd Ex} (h1:Keep one) {ops:Ops} {e:Ex} {t:Tok} {l:List Tok} {op:Int} (h:opOf ops (t :: l)=some op):chainW one ops e (t :: l)=(one l).bind fun y r=>chainW one ops (exTwo op e y) r:=by
 cases h2:one l with
 | err er a=>exact chainW_err h h2
 | ok y r=>exact chainW_some h1 h h2
def rleft (w:World) (p:Nat):Nat:=match w.cell? ⟨p,3,none⟩,w.cell? ⟨p,1,none⟩,w.cell? ⟨p,0,none⟩ with
 | some (.int _ e),some (.int _ j),some (.slice _ n _)=>if e=0 then n+1 - j.toNat else 0
 | _,_,_=>0
theorem RO.left {w:World} {p z k:Nat} {T l:List Tok} (h:RO w p z T l k):rleft w p=l.length+1:=by
 obtain⟨j,pl,rfl,hs⟩:=h.st
 obtain⟨q,c,h1,-⟩:=hs.cL
 unfold rleft
 rw[hs.cE,hs.cA,h1]
 have:=hs.jl
 simp
 omega
theorem RE.left {w:World} {p z er a:Nat} {T:List Tok} (h:RE w p z T er a):rleft w p=0:=by
 obtain⟨j,d,hs⟩:=h.st
 obtain⟨q,c,h1,-⟩:=hs.cL
 unfold rleft
 rw[hs.cE,hs.cA,h1]
 have:=h.ne
 simp
 omega
structure RCL (w0 w:World) (p ge gr:Nat) (r:RawE):Prop where
 val:BkA w ge r.cells
 res:BkA w gr zExpr
 out:Out (fun j=>j=p∨w0.heap.size≤j) w0 w
theorem RCL.step {w0 X X1 Y Z M:World} {p z k ge gr nb:Nat} {T:List Tok} {e:Ex} {re ry:RawE} {op:Int} {f:Ex→Rd Ex} {res:PR Ex} (h:RCL w0 X p ge gr re) (hgr:w0.heap.size≤gr) (hge:gr<ge) (hp:p<gr) (hx:ExMP X (fun j=>gr+1≤j∧j≠ge) e re.cells)
  (h1:Out (fun j=>j=p) X X1) (h2:Out (fun j=>j=p) X1 Y) (hA:Alt Y p z T k (fun j=>X1.heap.size≤j) ry (fun y l=>f (exTwo op e y) l) res) (hZ:Below Y.heap.size Y Z) (hn1:Y.heap.size≤nb) (hn2:nb<Z.heap.size) (hZc:∀ (j:Nat) u,(re.cells++ry.cells)[j]?=some u→Z.cell? ⟨nb,j,none⟩=some u)
  (hM:Out (fun j=>j=ge) Z M) (hMc:BkA M ge (exCells op zeroVal 0 0 0 ⟨#[]⟩ (some ⟨nb,0,none⟩) 2 2)) :
  RCL w0 M p ge gr ⟨op,zeroVal,0,0,0,⟨#[]⟩,some ⟨nb,0,none⟩,2,2⟩∧Alt M p z T k (fun j=>gr+1≤j∧j≠ge) ⟨op,zeroVal,0,0,0,⟨#[]⟩,some ⟨nb,0,none⟩,2,2⟩ f res:=by
 have s1:=h1.size
 have s2:=h2.size
 have s3:=hZ.size
 have hg:=h.val.lt
 have hr:=h.res.lt
 refine⟨⟨hMc,(((h.res.outs h1 (by omega)).outs h2 (by omega)).on hZ).outs hM (by omega),(((h.out.trans h1.up).trans h2.up).trans (Out.of hZ)).trans (hM.mono fun j _ (hj:j=ge)=>.inr (by omega))⟩,?_⟩
 rcases hA with ⟨y,l,a1,a2,a3⟩ |⟨er,a,a1,a2⟩
 ·refine .inl ⟨exTwo op e y,l,(a1.below hZ).outs hM (fun j (hj:j=ge)=>by omega),?_,a3⟩
  refine two_ex (V:=Y) (x:=e) (y:=y) (re:=re) (ry:=ry) (nb:=nb) (P:=fun j=>gr+1≤j∧j≠ge) ?_ ?_ ⟨by omega,by omega⟩ (fun j hj=>hj.2) hZ hn2 hZc hM
  ·exact ExMP.on (by omega) (fun j hj hl=>(h2.block j (by omega) (fun (e:j=p)=>by have:=hj.1;omega)).trans (h1.block j hl (fun (e:j=p)=>by have:=hj.1;omega))) (fun _ h _=>h) _ _ hx
  ·exact ExMP.on (Nat.le_refl _) (fun _ _ _=>rfl) (fun j hj _=>⟨by omega,by omega⟩) _ _ a2
 ·exact .inr ⟨er,a,a1,(a2.below hZ).outs hM (fun j (hj:j=ge)=>by omega)⟩
theorem rleft_on {w w':World} {p:Nat} (h:w'.heap[p]?=w.heap[p]?):rleft w' p=rleft w p:=by
 unfold rleft
 rw[World.cell?_of_block (w:=w) (a:=⟨p,3,none⟩) h,World.cell?_of_block (w:=w) (a:=⟨p,1,none⟩) h,World.cell?_of_block (w:=w) (a:=⟨p,0,none⟩) h]
theorem RAns.left {α:Type} {R:Nat→World→α→Value→Prop} {Sh:Value→Prop} {p z k:Nat} {T l:List Tok} {one:Rd α} {w w':World} {e:Ending} (hK:Keep one) (h:RAns R Sh p z T k (one l) w e w'):rleft w' p≤l.length+1:=by
 cases hr:one l with
 | err er a=>obtain⟨_,_,_,_,h4⟩:=h.err hr;rw[h4.left];omega
 | ok x r=>obtain⟨_,_,_,_,_,h5⟩:=h.ok hr;rw[h5.left];have:=hK.len hr;omega
theorem Alt.one {β:Type} {Y Z M:World} {p z k ge nb:Nat} {T:List Tok} {P0 P:Nat→Prop} {ry:RawE} {op:Int} {f:Ex→Rd β} {res:PR β} (hA:Alt Y p z T k P0 ry (fun y l=>f (exOne op y) l) res) (hZ:Below Y.heap.size Y Z) (hn2:nb<Z.heap.size) (hZc:∀ (j:Nat) u,ry.cells[j]?=some u→Z.cell? ⟨nb,j,none⟩=some u)
  (hM:Out (fun j=>j=ge) Z M) (hp:p<ge) (hP:∀ j,P0 j→P j) (hn:P nb) (hg:∀ j,P j→j≠ge):Alt M p z T k P ⟨op,zeroVal,0,0,0,⟨#[]⟩,some ⟨nb,0,none⟩,1,1⟩ f res:=by
 rcases hA with ⟨y,l,a1,a2,a3⟩ |⟨er,a,a1,a2⟩
 ·refine .inl ⟨exOne op y,l,(a1.below hZ).outs hM (fun j (hj:j=ge)=>by omega),?_,a3⟩
  exact one_ex (V:=Y) (x:=y) (re:=ry) (nb:=nb) (P:=P) (ExMP.on (Nat.le_refl _) (fun _ _ _=>rfl) (fun j hj _=>hP j hj) _ _ a2) hn hg hZ hn2 hZc hM
 ·exact .inr ⟨er,a,a1,(a2.below hZ).outs hM (fun j (hj:j=ge)=>by omega)⟩
theorem Alt.two {β:Type} {Y Z M:World} {p z k ge nb:Nat} {T:List Tok} {P0 P:Nat→Prop} {e:Ex} {re ry:RawE} {op:Int} {f:Ex→Rd β} {res:PR β} (hx:ExMP Y P e re.cells) (hA:Alt Y p z T k P0 ry (fun y l=>f (exTwo op e y) l) res) (hZ:Below Y.heap.size Y Z) (hn2:nb<Z.heap.size) (hZc:∀ (j:Nat) u,(re.cells++ry.cells)[j]?=some u→Z.cell? ⟨nb,j,none⟩=some u)
  (hM:Out (fun j=>j=ge) Z M) (hp:p<ge) (hP:∀ j,P0 j→P j) (hn:P nb) (hg:∀ j,P j→j≠ge):Alt M p z T k P ⟨op,zeroVal,0,0,0,⟨#[]⟩,some ⟨nb,0,none⟩,2,2⟩ f res:=by
 rcases hA with ⟨y,l,a1,a2,a3⟩ |⟨er,a,a1,a2⟩
 ·refine .inl ⟨exTwo op e y,l,(a1.below hZ).outs hM (fun j (hj:j=ge)=>by omega),?_,a3⟩
  exact two_ex (V:=Y) (x:=e) (y:=y) (re:=re) (ry:=ry) (nb:=nb) (P:=P) hx (ExMP.on (Nat.le_refl _) (fun _ _ _=>rfl) (fun j hj _=>hP j hj) _ _ a2) hn hg hZ hn2 hZc hM
 ·exact .inr ⟨er,a,a1,(a2.below hZ).outs hM (fun j (hj:j=ge)=>by omega)⟩
theorem bind_id {α:Type} (s:PR α):s.bind (fun y r=>.ok y r)=s:=by cases s <;> rfl
theorem RO.word {W:World} {p z k:Nat} {T l:List Tok} (h:RO W p z T l k) {s:Bs} (hs:s∈lexWords):(∃ t r,l=t :: r∧hSees s l=true∧rIs 1 s (t :: r)=true)∨hSees s l=false∧rIs 1 s l=false:=by
 have hw:=sees_w hs h.toks
 cases hc:rIs 1 s l with
 | false=>exact .inr ⟨hw.trans hc,rfl⟩
 | true=>obtain⟨t,r,rfl⟩:=rIs_cons hc;exact .inl ⟨t,r,rfl,hw.trans hc,hc⟩
theorem RO.sign {W:World} {p z k:Nat} {T l:List Tok} (h:RO W p z T l k) {s:Bs} (hs:s ∉ lexWords):(∃ t r,l=t :: r∧hSees s l=true∧rIs 6 s (t :: r)=true)∨hSees s l=false∧rIs 6 s l=false:=by
 have hw:=sees_s hs h.toks
 cases hc:rIs 6 s l with
 | false=>exact .inr ⟨hw.trans hc,rfl⟩
 | true=>obtain⟨t,r,rfl⟩:=rIs_cons hc;exact .inl ⟨t,r,rfl,hw.trans hc,hc⟩
theorem RO.mustW {β:Type} {V:World} {p z k:Nat} {T l:List Tok} (h:RO V p z T l k) {s:Bs} (hs:s∈lexWords) {P:Nat→Prop} {e:Ex} {r:RawE} (hx:ExMP V P e r.cells) (hp:¬ P p) {f:Ex→Rd β} {res:PR β} (hq:need z s l (fun l=>f e l)=res) :
  Calls Tryz.prog 16 #[.pointer (some ⟨p,0,none⟩),.int .i64 1,.string (bsB s)] V (fun en w'=>en=.returned (.tuple #[])∧Out (fun j=>j=p) V w'∧Alt w' p z T k P r f res):=by
 rcases h.word hs with ⟨t,r2,rfl,h1,hc⟩ |⟨h1,hc⟩
 ·exact (rmust_yes p z k T t r2 1 (by decide) s V h hc).mono fun en w' ⟨a,b,c⟩=>⟨a,c,.inl ⟨e,r2,b,ExMP.on c.size (fun j hj hl=>c.block j hl (fun e=>hp (by rw[← e];exact hj))) (fun _ h _=>h) _ _ hx,by unfold need at hq;rw[if_pos h1] at hq;exact hq⟩⟩
 ·exact (rmust_no p z k T l 1 (by decide) s V h hc).mono fun en w' ⟨a,b,c⟩=>⟨a,c,.inr ⟨7,hAt z l,by unfold need at hq;rw[if_neg (by rw[h1];decide)] at hq;exact hq.symm,b⟩⟩
theorem RO.mustS {β:Type} {V:World} {p z k:Nat} {T l:List Tok} (h:RO V p z T l k) {s:Bs} (hs:s ∉ lexWords) {P:Nat→Prop} {e:Ex} {r:RawE} (hx:ExMP V P e r.cells) (hp:¬ P p) {f:Ex→Rd β} {res:PR β} (hq:need z s l (fun l=>f e l)=res) :
  Calls Tryz.prog 16 #[.pointer (some ⟨p,0,none⟩),.int .i64 6,.string (bsB s)] V (fun en w'=>en=.returned (.tuple #[])∧Out (fun j=>j=p) V w'∧Alt w' p z T k P r f res):=by
 rcases h.sign hs with ⟨t,r2,rfl,h1,hc⟩ |⟨h1,hc⟩
 ·exact (rmust_yes p z k T t r2 6 (by decide) s V h hc).mono fun en w' ⟨a,b,c⟩=>⟨a,c,.inl ⟨e,r2,b,ExMP.on c.size (fun j hj hl=>c.block j hl (fun e=>hp (by rw[← e];exact hj))) (fun _ h _=>h) _ _ hx,by unfold need at hq;rw[if_pos h1] at hq;exact hq⟩⟩
 ·exact (rmust_no p z k T l 6 (by decide) s V h hc).mono fun en w' ⟨a,b,c⟩=>⟨a,c,.inr ⟨7,hAt z l,by unfold need at hq;rw[if_neg (by rw[h1];decide)] at hq;exact hq.symm,b⟩⟩
theorem Alt.mustS {β:Type} {V:World} {p z k:Nat} {T:List Tok} {s:Bs} (hs:s ∉ lexWords) {P:Nat→Prop} {r:RawE} (hp:¬ P p) {f:Ex→Rd β} {res:PR β} (h:Alt V p z T k P r (fun e l=>need z s l (fun l=>f e l)) res) :
  Calls Tryz.prog 16 #[.pointer (some ⟨p,0,none⟩),.int .i64 6,.string (bsB s)] V (fun en w'=>en=.returned (.tuple #[])∧Out (fun j=>j=p) V w'∧Alt w' p z T k P r f res):=by
 rcases h with ⟨e,l,h1,h2,h3⟩ |⟨er,a,h1,h2⟩
 ·exact RO.mustS h1 hs h2 hp h3
 ·exact (rmust_err p z T er a 6 (bsB s) V h2).mono fun en w' ⟨a1,b⟩=>⟨a1,Out.of b,.inr ⟨er,a,h1,h2.below b⟩⟩
def sgL:List Bs:=[[61],[60,62],[60],[60,61],[62],[62,61]]
theorem ops_none {l:List Tok} (h:∀ (j:Nat) s,sgL[j]?=some s→hSees s l=false):opOf opsCmp l=none:=by
 have h0:=h 0 _ rfl
 have h1:=h 1 _ rfl
 have h2:=h 2 _ rfl
 have h3:=h 3 _ rfl
 have h4:=h 4 _ rfl
 have h5:=h 5 _ rfl
 simp[opOf,opsCmp,h0,h1,h2,h3,h4,h5]
theorem ops_some {l:List Tok} {i:Nat} {s:Bs} (hi:sgL[i]?=some s) (hs:hSees s l=true) (h:∀ (j:Nat) s,j<i→sgL[j]?=some s→hSees s l=false):opOf opsCmp l=some ((9+i:Nat):Int):=by
 have hl:i<6:=(List.getElem?_eq_some_iff.1 hi).1
 match i,hl,hi with
 | 0,_,hi=>cases hi;simp[opOf,opsCmp,hs]
 | 1,_,hi=>cases hi;have h0:=h 0 _ (by omega) rfl;simp[opOf,opsCmp,hs,h0]
 | 2,_,hi=>cases hi;have h0:=h 0 _ (by omega) rfl;have h1:=h 1 _ (by omega) rfl;simp[opOf,opsCmp,hs,h0,h1]
 | 3,_,hi=>cases hi;have h0:=h 0 _ (by omega) rfl;have h1:=h 1 _ (by omega) rfl;have h2:=h 2 _ (by omega) rfl;simp[opOf,opsCmp,hs,h0,h1,h2]
 | 4,_,hi=>cases hi;have h0:=h 0 _ (by omega) rfl;have h1:=h 1 _ (by omega) rfl;have h2:=h 2 _ (by omega) rfl;have h3:=h 3 _ (by omega) rfl;simp[opOf,opsCmp,hs,h0,h1,h2,h3]
 | 5,_,hi=>cases hi;have h0:=h 0 _ (by omega) rfl;have h1:=h 1 _ (by omega) rfl;have h2:=h 2 _ (by omega) rfl;have h3:=h 3 _ (by omega) rfl;have h4:=h 4 _ (by omega) rfl;simp[opOf,opsCmp,hs,h0,h1,h2,h3,h4]
theorem sgL_words:∀ s∈sgL,s ∉ lexWords:=by decide
theorem rIs_apart {s u:Bs} {l:List Tok} (h:rIs 6 s l=true):rIs 1 u l=false:=by
 cases l with
 | nil=>rfl
 | cons t r =>
  simp only[rIs,Bool.and_eq_true,beq_iff_eq] at h ⊢
  simp[h.1]
theorem Alt.chain {W:World} {p z k:Nat} {T:List Tok} {P:Nat→Prop} {r:RawE} {nt:Rd Ex} {res:PR Ex} (hK:Keep nt) {s:Bs} {op:Int} (hs:s∈lexWords) (h:Alt W p z T k P r (chainW nt [(s,op)]) res) :
  (∃ e t l,RO W p z T (t :: l) k∧rIs 1 s (t :: l)=true∧ExMP W P e r.cells∧(nt l).bind (fun y r=>chainW nt [(s,op)] (exTwo op e y) r)=res) ∨
  (Calls Tryz.prog 15 #[.pointer (some ⟨p,0,none⟩),.string (bsB s)] W (fun e w'=>e=.returned (.bool false)∧Below W.heap.size W w')∧Alt W p z T k P r (fun e l=>.ok e l) res):=by
 rcases h with ⟨e,l,h1,h2,h3⟩ |⟨er,a,h1,h2⟩
 ·have hw:=sees_w hs h1.toks
  cases hc:rIs 1 s l with
  | false=>exact .inr ⟨rword_no p z k T l s W h1 hc,.inl ⟨e,l,h1,h2,by rw[← h3,chainW_none (op1_none (hw.trans hc))]⟩⟩
  | true =>
   obtain⟨t,r,rfl⟩:=rIs_cons hc
   exact .inl ⟨e,t,r,h1,hc,h2,by rw[← h3,chainW_step hK (op1_some (hw.trans hc))]⟩
 ·exact .inr ⟨rword_err p z T er a (bsB s) W h2,.inr ⟨er,a,h1,h2⟩⟩
theorem Alt.chain2 {W:World} {p z k:Nat} {T:List Tok} {P:Nat→Prop} {r:RawE} {nt:Rd Ex} {res:PR Ex} (hK:Keep nt) {s1 s2:Bs} {o1 o2:Int} (hs1:s1 ∉ lexWords) (hs2:s2 ∉ lexWords) (h:Alt W p z T k P r (chainW nt [(s1,o1),(s2,o2)]) res) :
  (∃ e t l,RO W p z T (t :: l) k∧rIs 6 s1 (t :: l)=true∧ExMP W P e r.cells∧(nt l).bind (fun y r=>chainW nt [(s1,o1),(s2,o2)] (exTwo o1 e y) r)=res) ∨
  (∃ e t l,RO W p z T (t :: l) k∧rIs 6 s1 (t :: l)=false∧rIs 6 s2 (t :: l)=true∧ExMP W P e r.cells∧(nt l).bind (fun y r=>chainW nt [(s1,o1),(s2,o2)] (exTwo o2 e y) r)=res) ∨
  (Calls Tryz.prog 30 #[.pointer (some ⟨p,0,none⟩),.string (bsB s1)] W (fun e w'=>e=.returned (.bool false)∧Below W.heap.size W w') ∧
   (∀ V,Below W.heap.size W V→Calls Tryz.prog 30 #[.pointer (some ⟨p,0,none⟩),.string (bsB s2)] V (fun e w'=>e=.returned (.bool false)∧Below V.heap.size V w'))∧Alt W p z T k P r (fun e l=>.ok e l) res):=by
 rcases h with ⟨e,l,h1,h2,h3⟩ |⟨er,a,h1,h2⟩
 ·have hw1:=sees_s hs1 h1.toks
  have hw2:=sees_s hs2 h1.toks
  cases hc:rIs 6 s1 l with
  | true =>
   obtain⟨t,r,rfl⟩:=rIs_cons hc
   exact .inl ⟨e,t,r,h1,hc,h2,by rw[← h3,chainW_step hK (op:=o1) (by simp[opOf,hw1.trans hc])]⟩
  | false =>
   cases hc2:rIs 6 s2 l with
   | true =>
    obtain⟨t,r,rfl⟩:=rIs_cons hc2
    exact .inr (.inl ⟨e,t,r,h1,hc,hc2,h2,by rw[← h3,chainW_step hK (op:=o2) (by simp[opOf,hw1.trans hc,hw2.trans hc2])]⟩)
   | false=>exact .inr (.inr ⟨rsign_no p z k T l s1 W h1 hc,fun V hb=>rsign_no p z k T l s2 V (h1.below hb) hc2,.inl ⟨e,l,h1,h2,by rw[← h3,chainW_none (by simp[opOf,hw1.trans hc,hw2.trans hc2])]⟩⟩)
 ·exact .inr (.inr ⟨rsign_err p z T er a (bsB s1) W h2,fun V hb=>rsign_err p z T er a (bsB s2) V (h2.below hb),.inr ⟨er,a,h1,h2⟩⟩)
end Go.Proofs.YtapbglhjamddbaaGreatDoor
