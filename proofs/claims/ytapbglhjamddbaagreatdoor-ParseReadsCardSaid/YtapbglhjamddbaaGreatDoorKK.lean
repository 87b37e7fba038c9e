/- A part of the proof. -/
import Derived.Test.YtapbglhjamddbaaGreatDoorKG
import Derived.Test.YtapbglhjamddbaaGreatDoorKI
import Derived.Test.YtapbglhjamddbaaGreatDoorKJ
import Derived.Deep.CutBlock
import Derived.Deep.CutRange
import Derived.Test.YtapbglhjamddbaaGreatDoorHd
set_option linter.unusedSimpArgs false
set_option linter.unusedVariables false
namespace Go.Proofs.YtapbglhjamddbaaGreatDoor
open Go.RowKit Go.Deep
set_option maxRecDepth 100000
theorem rlex_ok (s:ByteArray) (w:World) (hs:s.size≤9223372036854775807) (L:List Tok) (hl:lexS s.data.toList=.ok L) :
  Calls Tryz.prog 11 #[.string s] w fun e w'=>(∃ q c,e=.returned (.tuple #[.slice q L.length c,.int .i64 0,.int .i64 0])∧L.length≤c∧c≤9223372036854775807∧ArrA w.heap.size w'.heap.size q 4 L (TokC w'))∧Below w.heap.size w w' :=
 (rlex_any s w hs (.ok L) hl).mono fun _ _ h=>h
theorem rlex_bad (s:ByteArray) (w:World) (hs:s.size≤9223372036854775807) (er a:Nat) (hl:lexS s.data.toList=.err er a) :
  Calls Tryz.prog 11 #[.string s] w fun e w'=>(∃ q n c,e=.returned (.tuple #[.slice q n c,.int .i64 (er:Int),.int .i64 (a:Int)]))∧Below w.heap.size w w' :=
 (rlex_any s w hs (.err er a) hl).mono fun _ _ ⟨⟨q,c,e,_⟩,hb⟩=>⟨⟨q,_,c,e⟩,hb⟩
structure QB (w0 V:World) (gq gr:Nat) (v vo:Value) (K:List RawS):Prop where
 box:BkA V gq [v,vo]
 res:BkA V gr zQu
 own:OwnF V (gq+1) 38 5 RawS.cells v K
 out:Out (fun j=>w0.heap.size≤j) w0 V
theorem QB.read {w0 V V':World} {p gq gr:Nat} {v vo:Value} {K:List RawS} (h:QB w0 V gq gr v vo K) (o:Out (fun j=>j=p) V V') (h1:p<gq) (h2:gr<p) (h0:w0.heap.size≤p):QB w0 V' gq gr v vo K :=
 ⟨h.box.outs o (by omega),h.res.outs o (by omega),h.own.kept o (fun k (hk:k=p) e=>by have:=(h.own.lt k e).1;omega),h.out.trans (o.mono fun j _ (hj:j=p)=>by omega)⟩
theorem QB.below {w0 V V':World} {gq gr:Nat} {v vo:Value} {K:List RawS} (h:QB w0 V gq gr v vo K) (hb:Below V.heap.size V V'):QB w0 V' gq gr v vo K :=
 ⟨h.box.on hb,h.res.on hb,h.own.later hb,h.out.trans (Out.of hb)⟩
theorem Rel.grown {α ρ:Type} {el:El α ρ} (hT:el.Ok) {W U V:World} {b:Nat} {v v':Value} {L:List α} {K:List ρ} {x:α} {r:ρ} (h:Rel el U b v K L) (hv:∀ k,v.ownBlock=some k→k<W.heap.size) (hx:el.rel U (fun g=>W.heap.size≤g) x r) (hbW:b≤W.heap.size) (hWU:W.heap.size≤U.heap.size)
  (hO:Out (fun k=>v.ownBlock=some k) U V) (hat:v'.ownBlock=v.ownBlock∨v'.ownBlock=some U.heap.size):Rel el V b v' (K++[r]) (L++[x]):=by
 obtain⟨hKL,hK⟩:=h
 refine⟨by rw[List.length_append,List.length_append,hKL];rfl,fun j r' y hr' hy=>?_⟩
 by_cases hj:j<K.length
 ·rw[List.getElem?_append_left hj] at hr'
  rw[List.getElem?_append_left (by rw[← hKL];exact hj)] at hy
  refine hT.on hO.size (fun g hg hl=>hO.block g hl hg.2) (fun g hg hl=>⟨hg.1,?_⟩) _ _ (hK j r' y hr' hy)
  rcases hat with h | h
  ·rw[h];exact hg.2
  ·rw[h];simp;omega
 ·have hj2:j - K.length=0:=by have:=(List.getElem?_eq_some_iff.1 hr').1;simp at this;omega
  rw[List.getElem?_append_right (by omega),hj2] at hr'
  rw[List.getElem?_append_right (by rw[← hKL];omega),← hKL,hj2] at hy
  simp only[List.getElem?_cons_zero,Option.some.injEq] at hr' hy
  subst hr' hy
  refine hT.on hO.size (fun g hg hl=>hO.block g hl fun e=>by have:=hv g e;omega) (fun g hg hl=>⟨by omega,?_⟩) _ _ hx
  rcases hat with h | h
  ·rw[h]
   intro e
   have:=hv g e
   omega
  ·rw[h];simp;omega
theorem Rel.nil {α ρ:Type} (el:El α ρ) (V:World) (b:Nat) (v:Value):Rel el V b v [] []:=⟨rfl,fun j r x hr=>by simp at hr⟩
def slQ (z:Nat) (orr:Rd Ex) (acc:List Sel):Rd Qu:=fun l=>(need z kwSelect l (bSel2 z orr)).bind fun x=>tlQ z orr (acc++[x])
theorem hdQ_room {z:Nat} {orr:Rd Ex} {acc:List Sel} {l:List Tok} (h:acc.length≠4∨hSees kwSelect l=false):hdQ z orr acc l=slQ z orr acc l:=by
 unfold hdQ slQ
 rw[bSel_room h]
 rfl
theorem tlQ_fun {z:Nat} {orr:Rd Ex} (hK:Shr orr):(fun acc:List Sel=>tlQ z orr acc)=fun acc l=>if hSees kwUnion l=true then (fun acc l=>need z kwAll l (hdQ z orr acc)) acc l.tail else (fun acc=>orQ z acc) acc l:=by
 funext acc
 exact tlQ_eq hK acc
theorem orQ_fun (z:Nat):(fun acc:List Sel=>orQ z acc)=fun acc l=>if hSees kwOrder l=true then (fun acc l=>need z kwBy l fun l=>(listP z (bKey z) l).bind fun o=>bEnd (⟨acc,o⟩:Qu)) acc l.tail else (fun acc l=>bEnd (⟨acc,[]⟩:Qu) l) acc l:=by
 funext acc
 exact orQ_eq z acc
theorem sel_keep {z:Nat} {orr:Rd Ex} (hK:Shr orr):Keep (fun l=>need z kwSelect l (bSel2 z orr)):=by
 have e:(fun l=>need z kwSelect l (bSel2 z orr))=bSel z orr 0:=by funext l;rw[bSel_room (.inl (by decide))]
 rw[e]
 exact (bSel_shr z hK 0).keep
theorem AltP.room {V:World} {p z n:Nat} {T:List Tok} {Q:List Sel→Prop} {orr:Rd Ex} {res:PR Qu} (h:AltP V p z T 0 Q (fun acc=>hdQ z orr acc) res) (hn:∀ acc,Q acc→acc.length=n) (h4:n≠4):AltP V p z T 0 Q (fun acc=>slQ z orr acc) res:=by
 rcases h with ⟨acc,l,h1,h2,h3⟩ | h
 ·exact .inl ⟨acc,l,h1,h2,by rw[← h3];exact (hdQ_room (.inl (by rw[hn acc h2];exact h4))).symm⟩
 ·exact .inr h
theorem AltP.four {V:World} {p z:Nat} {T:List Tok} {Q:List Sel→Prop} {orr:Rd Ex} {res:PR Qu} (h:AltP V p z T 0 Q (fun acc=>hdQ z orr acc) res) (hn:∀ acc,Q acc→acc.length=4) :
  ∃ b,Calls Tryz.prog 12 #[.pointer (some ⟨p,0,none⟩),.int .i64 1,.string (bsB kwSelect)] V (fun e V'=>e=.returned (.bool b)∧Below V.heap.size V V') ∧
   (b=true→∃ l,RO V p z T l 0∧res=.err 5 (hAt z l))∧(b=false→∃ er a,res=.err er a∧St0 V p z T 0 (fun l=>need z kwSelect l (bSel2 z orr)) (.err er a)):=by
 rcases h with ⟨acc,l,h1,h2,h3⟩ |⟨er,a,h1,h2⟩
 ·have hw:=sees_w (s:=kwSelect) (by decide) h1.toks
  refine⟨rIs 1 kwSelect l,ris_ok p z 0 T l 1 (by decide) kwSelect V h1,fun hb=>⟨l,h1,?_⟩,fun hb=>⟨7,hAt z l,?_,.inl ⟨l,h1,?_⟩⟩⟩
  ·rw[← h3]
   show (bSel z orr acc.length l).bind _=_
   rw[hn acc h2,bSel_full (hw.trans hb)]
   rfl
  ·rw[← h3]
   refine (hdQ_room (.inr (hw.trans hb))).trans ?_
   unfold slQ need
   rw[if_neg (by rw[hw.trans hb];decide)]
   rfl
  ·show need z kwSelect l _=_
   unfold need
   rw[if_neg (by rw[hw.trans hb];decide)]
 ·exact⟨false,ris_err p z T er a 1 (bsB kwSelect) V h2,fun hb=>by simp at hb,fun _=>⟨er,a,h1,.inr ⟨er,a,rfl,h2⟩⟩⟩
def Sel4 (V:World) (p z:Nat) (T:List Tok) (n:Nat) (Q:List Sel→Prop) (orr:Rd Ex) (res:PR Qu):Prop:=(n≠4∧AltP V p z T 0 Q (fun acc=>slQ z orr acc) res)∨∃ er a,res=.err er a∧St0 V p z T 0 (fun l=>need z kwSelect l (bSel2 z orr)) (.err er a)
theorem Sel4.call {V:World} {p z n:Nat} {T:List Tok} {Q:List Sel→Prop} {orr:Rd Ex} {res:PR Qu} (h:Sel4 V p z T n Q orr res) (C:RdE 33 p z T 0 orr) (hK:Shr orr) :
  Calls Tryz.prog 14 #[.pointer (some ⟨p,0,none⟩)] V (fun e Y=>rleft Y p≤rleft V p∧Out (fun j=>j=p) V Y∧∃ v,e=.returned v∧ShL v∧AltP Y p z T 0 (fun xy:List Sel × Sel=>Q xy.1∧SlV V.heap.size Y xy.2 v∧n≠4) (fun xy=>tlQ z orr (xy.1++[xy.2])) res):=by
 rcases h with ⟨h4,h⟩ |⟨er,a,h1,h2⟩
 ·exact AltP.callL (one:=fun l=>need z kwSelect l (bSel2 z orr)) (sel_keep hK) (Pr:=fun _=>n≠4) (fun _ _ _ _=>h4) (g:=fun acc x=>tlQ z orr (acc++[x])) h (fun res0 s=>rselects_any C hK res0 V s)
 ·refine (rselects_any C hK (.err er a) V h2).mono fun e Y hA=>?_
  obtain⟨hO,v,e1,hs,hE⟩:=hA.err rfl
  exact⟨by rw[hE.left];omega,hO,v,e1,hs,.inr ⟨er,a,h1,hE⟩⟩
theorem AltP.mayWL {α β:Type} {V:World} {p z k:Nat} {T:List Tok} {s:Bs} (hs:s∈lexWords) {Q:α→Prop} {f g:α→Rd β} {res:PR β} (h:AltP V p z T k Q (fun x l=>if hSees s l=true then f x l.tail else g x l) res) :
  ∃ b,Calls Tryz.prog 15 #[.pointer (some ⟨p,0,none⟩),.string (bsB s)] V (fun en w'=>en=.returned (.bool b)∧(b=true→rleft w' p<rleft V p∧∃ x,Q x)∧Out (fun j=>j=p) V w'∧AltP w' p z T k Q (if b=true then f else g) res):=by
 rcases h with ⟨x,l,h1,h2,h3⟩ |⟨er,a,h1,h2⟩
 ·rcases h1.word hs with ⟨t,r2,rfl,h4,hc⟩ |⟨h4,hc⟩
  ·exact⟨true,(rword_yes p z k T t r2 s V h1 hc).mono fun en w' ⟨a,b,c⟩=>⟨a,fun _=>⟨by rw[b.left,h1.left];simp,x,h2⟩,c,.inl ⟨x,r2,b,h2,by dsimp only at h3;rw[if_pos h4] at h3;exact h3⟩⟩⟩
  ·exact⟨false,(rword_no p z k T l s V h1 hc).mono fun en w' ⟨a,b⟩=>⟨a,fun h=>by simp at h,Out.of b,.inl ⟨x,l,h1.below b,h2,by dsimp only at h3;rw[if_neg (by rw[h4];decide)] at h3;exact h3⟩⟩⟩
 ·exact⟨false,(rword_err p z T er a (bsB s) V h2).mono fun en w' ⟨a1,b⟩=>⟨a1,fun h=>by simp at h,Out.of b,.inr ⟨er,a,h1,h2.below b⟩⟩⟩
theorem slv_rel {b:Nat} {V:World} {x:Sel} {d:Bool} {iq fq wq gq:Option Addr} {inn ic fn fc wn wc gn gc:Nat} (h:SlV b V x (.agg #[.bool d,.slice iq inn ic,.slice fq fn fc,.slice wq wn wc,.slice gq gn gc])):elS.rel V (fun g=>b≤g) x ⟨d,⟨iq,inn,ic⟩,⟨fq,fn,fc⟩,⟨wq,wn,wc⟩,⟨gq,gn,gc⟩⟩:=by
 obtain⟨⟨d',⟨q1,n1,c1⟩,⟨q2,n2,c2⟩,⟨q3,n3,c3⟩,⟨q4,n4,c4⟩⟩,e,hr⟩:=h
 simp only[Value.agg.injEq,Array.mk.injEq,List.cons.injEq,Value.slice.injEq,Value.bool.injEq,and_true] at e
 obtain⟨rfl,⟨rfl,rfl,rfl⟩,⟨rfl,rfl,rfl⟩,⟨rfl,rfl,rfl⟩,rfl,rfl,rfl⟩:=e
 exact hr
theorem roomS {K:List RawS} (h:K.length≤4):K.length+1≤maxLen∧(K.length+1)*104≤140737488355328:=by
 unfold maxLen
 omega
def pqOf:PR Qu→PQ
 | .err e a=>.err e a
 | .ok q _=>.ok q
theorem quv_of {V:World} {gq:Nat} {v:Value} {K:List RawS} {acc:List Sel} {o:List Ky} {qo:Option Addr} {co b no:Nat} (hO:OwnF V (gq+1) 38 5 RawS.cells v K) (hR:Rel elS V (gq+1) v K acc) (hk:LsK b V o (.slice qo no co)) (hb:gq+1≤b):QuV (gq+1) V ⟨acc,o⟩ (.agg #[v,.slice qo no co]):=by
 obtain⟨q,c,e,h3,-,h4⟩:=LsO.read elS_ok (L:=acc) (v:=v) (b:=gq+1) (w:=V) ⟨K,hO,hR.1,hR.2⟩
 obtain⟨q2,c2,e2,h5,h6⟩:=hk
 simp only[Value.slice.injEq] at e2
 obtain⟨rfl,rfl,rfl⟩:=e2
 refine⟨q,_,c,qo,_,co,by rw[e],⟨rfl,h3,h4⟩,rfl,h5,h6.on elK_ok (Nat.le_refl _) (fun _ _ _=>rfl) (fun g hg _=>Nat.le_trans hb hg)⟩
set_option linter.unusedSimpArgs false
set_option linter.unusedVariables false
set_option maxHeartbeats 4000000 in
theorem rparse_bad (s:ByteArray) (w:World) (hs:s.size≤9223372036854775807) (er a:Nat) (he:er≠0) (hl:lexS s.data.toList=.err er a) :
  Calls Tryz.prog 6 #[.string s] w fun e w'=>PAns (.err er a) w.heap.size w' e∧Below w.heap.size w w':=by
 have LX:=zH (rlex_bad s (w.alloc (.cells #[.slice none 0 0,.slice none 0 0] 26)) hs er a hl)
 have hne:((er:Int) != 0)=true:=by rw[bne_iff_ne];omega
 obtain⟨A,hA⟩:∃ A,A=w.alloc (.cells #[.slice none 0 0,.slice none 0 0] 26):=⟨_,rfl⟩
 have bA:Below w.heap.size w A:=by rw[hA];exact ext_alloc (ext_refl _) _
 have N0:BkA A w.heap.size zQu:=by rw[hA];exact BkA.new w zQu 26
 rw[← hA] at LX
 go_enter Tryz.func6,Tryz.ntmps6
 go_upto_region 1 with fail
 rw[← hA]
 clear hA
 go_wp2_with fail
 refine LX.out.mono ?_
 rintro e V ⟨⟨q,n,c,rfl⟩,hb⟩
 have N1:=N0.on hb
 have u0:=N1.c 0 _ rfl
 have u1:=N1.c 1 _ rfl
 have uf:=N1.fz
 have ul:=N1.lt
 have hA2:=bA.size
 have HB:=zH (bA.trans (hb.mono bA.size))
 have o:=out2 V w.heap.size (.slice none 0 0) (.slice none 0 0)
 have HO:=zH (((Out.of HB.out).trans (o.mono fun j _ (hj:j=w.heap.size)=>(show w.heap.size≤j by omega)):Out (fun j=>w.heap.size≤j) w _))
 clear N0 N1 hb LX o
 go_wp2_with fail
 refine bodyPost_ret (v:=.tuple #[.agg #[.slice none 0 0,.slice none 0 0],.int .i64 (er:Int),.int .i64 (a:Int)]) (by simp[results,Tryz.results6,go_sem,u0,u1]) rfl ⟨rfl,HO.out.below (Nat.le_refl _) (fun j hj=>hj)⟩
set_option maxHeartbeats 20000000 in
theorem rparse_good (s:ByteArray) (w:World) (hs:s.size≤9223372036854775807) (L:List Tok) (hl:lexS s.data.toList=.ok L) (res:PR Qu) (hr:bQuery s.size (lev s.size 60).o L=res) :
  Calls Tryz.prog 6 #[.string s] w fun e w'=>PAns (pqOf res) w.heap.size w' e∧Below w.heap.size w w':=by
 obtain⟨z,hz⟩:∃ z,z=s.size:=⟨_,rfl⟩
 have hz':s.size=z:=hz.symm
 obtain⟨htk,hz2⟩:=lexS_toks hl
 rw[show s.data.toList.length=z from hz.symm ▸ rfl] at htk hz2
 have HTK:=zH htk
 rw[← hz] at hr
 have HR:=zH hr
 obtain⟨A,hA⟩:∃ A,A=w.alloc (.cells #[.slice none 0 0,.slice none 0 0] 26):=⟨_,rfl⟩
 have bA:Below w.heap.size w A:=by rw[hA];exact ext_alloc (ext_refl _) _
 have N0:BkA A w.heap.size zQu:=by rw[hA];exact BkA.new w zQu 26
 have sA:A.heap.size=w.heap.size+1:=by rw[hA];simp
 have LX:=zH (rlex_ok s A hs L hl)
 have HA:=zH hA
 have HZ:=zH hz
 clear hr hA hl htk hz hs
 go_enter Tryz.func6,Tryz.ntmps6
 go_upto_region 1 with fail
 rw[← HA.out]
 clear HA
 obtain⟨gr,hgr⟩:∃ g,g=w.heap.size:=⟨_,rfl⟩
 have HGR:=zH hgr
 rw[← hgr] at N0 sA ⊢
 clear hgr
 go_wp2_with fail
 refine LX.out.mono ?_
 rintro e V ⟨⟨q,c,rfl,hlc,hcm,harr⟩,hb⟩
 have hAV:=hb.size
 obtain⟨m,hm⟩:∃ m,m=L.length:=⟨_,rfl⟩
 obtain⟨X,hX⟩:∃ X,X=V.alloc (.cells #[.slice q m c,.int .i64 0,.int .i64 (z:Int),.int .i64 0,.int .i64 0,.int .i64 0] 64):=⟨_,rfl⟩
 have bX:Below V.heap.size V X:=by rw[hX];exact ext_alloc (ext_refl _) _
 have NX:BkA X V.heap.size [.slice q m c,.int .i64 0,.int .i64 (z:Int),.int .i64 0,.int .i64 0,.int .i64 0]:=by rw[hX];exact BkA.new V [.slice q m c,.int .i64 0,.int .i64 (z:Int),.int .i64 0,.int .i64 0,.int .i64 0] 64
 have sX:X.heap.size=V.heap.size+1:=by rw[hX];simp
 have hml:m≤L.length:=by omega
 have R0:RO X V.heap.size z L L 0:=⟨⟨0,0,rfl,⟨q,c,by rw[← hm];exact NX.c 0 _ rfl,hlc,hcm,fun i hi=>by
   obtain⟨g,off,e,h1,h2,h3⟩:=harr i hi
   exact⟨g,off,e,Nat.zero_le _,h2,fun j t ht=>(h3 j t ht).keep (bX.block g h2)⟩⟩,NX.c 1 _ rfl,NX.c 2 _ rfl,NX.c 3 _ rfl,NX.c 4 _ rfl,NX.c 5 _ rfl,NX.fz,NX.lt,Nat.zero_le _,HTK.out⟩,by omega⟩
 obtain⟨Y,hY⟩:∃ Y,Y=X.alloc (.cells #[.slice none 0 0,.slice none 0 0] 26):=⟨_,rfl⟩
 have bY:Below X.heap.size X Y:=by rw[hY];exact ext_alloc (ext_refl _) _
 have NY:BkA Y X.heap.size zQu:=by rw[hY];exact BkA.new X zQu 26
 have R1:=R0.below bY
 rw[sX] at NY
 obtain⟨p,hp⟩:∃ p,p=V.heap.size:=⟨_,rfl⟩
 obtain⟨gq,hgq⟩:∃ g,g=p+1:=⟨_,rfl⟩
 have SX:=zH (show X.heap.size=gq by omega)
 have hpg:p<gq:=by omega
 have QB0:QB w Y gq gr (.slice none 0 0) (.slice none 0 0) []:=⟨by rw[hgq,hp];exact NY,((N0.on hb).on bX).on bY,OwnF.nil _ _ _,Out.of (((bA.trans (hb.mono bA.size)).trans (bX.mono (Nat.le_trans bA.size hb.size))).trans (bY.mono (Nat.le_trans (Nat.le_trans bA.size hb.size) bX.size)))⟩
 rw[← hp] at R1
 have hpr:gr<p:=by omega
 have hwp:w.heap.size≤p:=by have:=HGR.out;omega
 have HS:=zH (show AltP Y p z L 0 (fun acc=>Rel elS Y (gq+1) (.slice none 0 0) [] acc) (fun acc=>hdQ z (lev z 60).o acc) res from .inl ⟨[],L,R1,Rel.nil _ _ _ _,by rw[← HR.out];rfl⟩)
 have HQ0:=zH QB0
 have HX:=zH hX
 have HY:=zH hY
 have HP:=zH hp
 have HM:=zH hm
 have HC:=zH (levR p z L 60 0 rfl).o
 clear LX harr hb hX bX NX R0 R1 NY QB0 hp bA N0 bY hlc hcm HTK hY hm hml sA sX hAV hgq
 rw[← HM.out]
 go_upto_region 5 with fail
 rw[← HX.out]
 clear HX
 go_upto_block 0 with fail
 rw[← HY.out,SX.out,← HP.out]
 clear HY SX HP
 go_wp2_with fail
 go_loopw [10] (fun _ wr=>∃ (v:Value) (K:List RawS),Hid (QB w wr gq gr v (.slice none 0 0) K)∧K.length≤4∧Hid (AltP wr p z L 0 (fun acc=>Rel elS wr (gq+1) v K acc) (fun acc=>hdQ z (lev z 60).o acc) res)) (fun _ wr=>rleft wr p)
 case atStart=>exact⟨_,[],HQ0.out,Nat.zero_le _,HS.out⟩
 case round =>
  clear HS HQ0
  obtain⟨v,K,hQB,hK4,hS⟩:=hrel
  obtain⟨W,hW⟩:∃ W,W=wr:=⟨_,rfl⟩
  rw[← hW] at hQB hS ⊢
  obtain⟨q0,c0,rfl,-⟩:=OwnF.arr elS_ok.len hQB.out.own
  have QW:=zH hQB.out
  clear hW hQB
  obtain⟨n,hn⟩:∃ n,n=K.length:=⟨_,rfl⟩
  have HNN:=zH hn
  rw[← hn] at hK4 hS QW
  have k0:=QW.out.box.c 0 _ rfl
  have kl:=QW.out.box.lt
  have HK4:=zH (show K.length≤4 by omega)
  have HHN:=zH (fun (acc:List Sel) (h:Rel elS W (gq+1) (.slice q0 n c0) K acc)=>(h.1.symm.trans hn.symm:acc.length=n))
  clear hn
  go_upto_region 6 with fail
  go_cut [36] from 29 to 52 (fun v36 wc=>∃ b,v36=.bool b∧Hid (Below W.heap.size W wc)∧Hid (b=true→∃ l,RO wc p z L l 0∧res=.err 5 (hAt z l))∧Hid (b=false→Sel4 wc p z L n (fun acc=>Rel elS wc (gq+1) (.slice q0 n c0) K acc) (lev z 60).o res))
  case first =>
   by_cases h4:n=4
   ·have e4:((n:Int) == 4)=true:=by rw[beq_iff_eq];omega
    obtain⟨b,hI,hB1,hB2⟩:=AltP.four hS.out (fun acc h=>(HHN.out acc h).trans h4)
    have HI:=zH hI
    have H1:=zH hB1
    have H2:=zH hB2
    clear hI h4 hB1 hB2
    go_wp2_with fail
    refine HI.out.mono ?_
    rintro e V2 ⟨rfl,hb⟩
    have HB:=zH hb
    clear hb
    go_wp2_with fail
    go_meet
    exact⟨b,rfl,HB.out,zH (fun h=>by obtain⟨l,h1,h2⟩:=H1.out h;exact⟨l,h1.below HB.out,h2⟩),zH (fun h=>by obtain⟨er,a,h1,h2⟩:=H2.out h;exact .inr ⟨er,a,h1,h2.below HB.out⟩)⟩
   ·have e4:((n:Int) == 4)=false:=by rw[beq_eq_false_iff_ne];omega
    have HA:=zH (show Sel4 W p z L n (fun acc=>Rel elS W (gq+1) (.slice q0 n c0) K acc) (lev z 60).o res from .inl ⟨h4,AltP.room hS.out HHN.out h4⟩)
    clear h4
    go_wp2_with fail
    go_meet
    exact⟨false,rfl,ext_refl _,zH (fun h=>by simp at h),zH (fun _=>HA.out)⟩
  case rest =>
  obtain⟨b,rfl,hBc,hB1,hB2⟩:=hcut
  obtain⟨V2,hV2⟩:∃ U,U=wc:=⟨_,rfl⟩
  rw[← hV2] at hBc hB1 hB2 ⊢
  have QV:=zH (QW.out.below hBc.out)
  have HLV:=zH (show rleft V2 p=rleft W p from rleft_on (hBc.out.block p (by omega)))
  clear hV2 QW hS k0 kl HHN hBc
  go_upto_if 36 with fail
  go_cut [] from 29 to 52 (fun wc=>Hid (QB w wc gq gr (.slice q0 n c0) (.slice none 0 0) K)∧Hid (rleft wc p≤rleft W p)∧Hid (Sel4 wc p z L n (fun acc=>Rel elS wc (gq+1) (.slice q0 n c0) K acc) (lev z 60).o res))
  case first =>
   cases b with
   | true =>
    obtain⟨l,hR,hE⟩:=hB1.out rfl
    have NO:=zH (rno_ok 5 (by decide) hR)
    have HE:=zH hE
    clear hB1 hB2 hR hE
    go_wp2_with fail
    refine NO.out.mono ?_
    rintro e2 V3 ⟨rfl,hE3,hO3⟩
    have Q3:=zH (QV.out.read hO3 (by omega) (by omega) (by omega))
    have HL:=zH (show rleft V3 p≤rleft W p by rw[hE3.left];omega)
    have HE3:=zH hE3
    clear hE3 hO3 NO
    go_wp2_with fail
    go_meet
    exact⟨Q3.out,HL.out,zH (.inr ⟨5,_,HE.out,.inr ⟨5,_,rfl,HE3.out⟩⟩)⟩
   | false =>
    have HA:=zH (hB2.out rfl)
    clear hB1 hB2
    go_wp2_with fail
    go_meet
    exact⟨QV.out,Nat.le_of_eq HLV.out,HA.out⟩
  case rest =>
   obtain⟨hQc,hLc,hAc⟩:=hcut
   obtain⟨U,hU⟩:∃ U,U=wc:=⟨_,rfl⟩
   rw[← hU] at hQc hLc hAc ⊢
   clear hU QV HLV hB1 hB2
   have CN:=zH (Sel4.call hAc.out HC.out (lev_shr z 60).o)
   have HLU:=zH hLc.out
   have QU:=zH hQc.out
   have lU:gq<U.heap.size:=hQc.out.box.lt
   clear hQc hLc hAc
   go_wp2_with fail
   refine CN.out.mono ?_
   rintro e Y ⟨hLY,hOY,v,rfl,⟨⟨bd,⟨iq,inn,ic⟩,⟨fq,fn,fc⟩,⟨wq,wn,wk⟩,⟨gq0,gn,gc⟩⟩,rfl⟩,hAY⟩
   obtain⟨Y2,hY2⟩:∃ V0,V0=Y.alloc (.cells #[.bool bd,.slice iq inn ic,.slice fq fn fc,.slice wq wn wk,.slice gq0 gn gc] 38):=⟨_,rfl⟩
   have bY2:Below Y.heap.size Y Y2:=by rw[hY2];exact ext_alloc (ext_refl _) _
   have kY2:BkA Y2 Y.heap.size (RawS.cells ⟨bd,⟨iq,inn,ic⟩,⟨fq,fn,fc⟩,⟨wq,wn,wk⟩,⟨gq0,gn,gc⟩⟩):=by rw[hY2];exact BkA.new Y (RawS.cells ⟨bd,⟨iq,inn,ic⟩,⟨fq,fn,fc⟩,⟨wq,wn,wk⟩,⟨gq0,gn,gc⟩⟩) 38
   have QY:=zH (QU.out.read hOY (by omega) (by omega) (by omega))
   have Q2:=zH (QY.out.below bY2)
   have b1:Below Y2.heap.size Y2 (Y2.alloc (.cells #[.bool bd,.slice iq inn ic,.slice fq fn fc,.slice wq wn wk,.slice gq0 gn gc] 38)):=ext_alloc (ext_refl _) _
   have Q3:=zH (Q2.out.below b1)
   have HBU:=zH (bY2.trans (b1.mono bY2.size))
   have hpY:p<Y.heap.size:=Nat.lt_of_lt_of_le (Nat.lt_trans hpg lU) hOY.size
   have HLY:=zH (show rleft Y p≤rleft W p from Nat.le_trans hLY HLU.out)
   have HAY:=zH hAY
   have HOY:=zH hOY
   have hUY:=hOY.size
   have HY2:=zH hY2
   obtain⟨d0,d1,d2,d3,d4⟩:=kY2.c5_ rfl
   have kl:=kY2.lt
   have c0_:=Q2.out.box.c 0 _ rfl
   have cl:=Q2.out.box.lt
   have KR:=zH (roomS HK4.out)
   have HSU:=zH (show gq+1≤(Y2.alloc (.cells #[.bool bd,.slice iq inn ic,.slice fq fn fc,.slice wq wn wk,.slice gq0 gn gc] 38)).heap.size from Q3.out.box.lt)
   clear hLY hOY hAY hY2 bY2 kY2 b1 CN HLU
   go_upto_region 9 with fail
   rw[← HY2.out]
   clear HY2
   go_wp2_with (at_builtin;go_must (refine wp_append_at rfl _ _ 23 38 rfl Tryz.underlying23 _ 104 Tryz.info_sel rfl (by omega) elS_ok.len RawS.one (gq+1) _ K rfl Q3.out.own _ 1 1 [⟨bd,⟨iq,inn,ic⟩,⟨fq,fn,fc⟩,⟨wq,wn,wk⟩,⟨gq0,gn,gc⟩⟩] rfl rfl 0 _ (one_block elS_ok.len 38 #[.bool bd,.slice iq inn ic,.slice fq fn fc,.slice wq wn wk,.slice gq0 gn gc] ⟨bd,⟨iq,inn,ic⟩,⟨fq,fn,fc⟩,⟨wq,wn,wk⟩,⟨gq0,gn,gc⟩⟩ rfl _ rfl) ?kr ?ka ?kb ?_))
   case kr=>exact KR.out.1
   case ka=>exact KR.out.2
   case kb=>exact HSU.out
   intro v2 M ON bN oN hat
   obtain⟨q2,c2,hv2,-⟩:=OwnF.arr elS_ok.len ON
   have hlo:=fun j (e:(Value.slice q0 n c0).ownBlock=some j)=>(Q3.out.own.lt j e).1
   have hloY:=fun j (e:(Value.slice q0 n c0).ownBlock=some j)=>(QY.out.own.lt j e).2
   obtain⟨M3,hM3⟩:∃ V0,V0=M.setCell ⟨gq,0,none⟩ v2:=⟨_,rfl⟩
   have o3:Out (fun j=>j=gq) M M3:=by rw[hM3];exact out_p _ _ _ _
   have bxM:=Q3.out.box.outs oN (fun e=>by have:=hlo _ e;omega)
   have HB3:BkA M3 gq [v2,.slice none 0 0]:=by rw[hM3];exact bxM.set1 0 (by simp) v2
   have QM:=zH (show QB w M3 gq gr v2 (.slice none 0 0) (K++[⟨bd,⟨iq,inn,ic⟩,⟨fq,fn,fc⟩,⟨wq,wn,wk⟩,⟨gq0,gn,gc⟩⟩]) from ⟨HB3,(Q3.out.res.outs oN (fun e=>by have:=hlo _ e;omega)).outs o3 (by omega),ON.kept o3 (fun j (hj:j=gq) e=>by have:=(ON.lt j e).1;omega),(Q3.out.out.trans (oN.mono fun j _ e=>by have:=hlo j e;omega)).trans (o3.mono fun j _ (hj:j=gq)=>by omega)⟩)
   have A3:AltP M3 p z L 0 (fun acc=>Rel elS M3 (gq+1) v2 (K++[⟨bd,⟨iq,inn,ic⟩,⟨fq,fn,fc⟩,⟨wq,wn,wk⟩,⟨gq0,gn,gc⟩⟩]) acc∧n≠4) (fun acc=>tlQ z (lev z 60).o acc) res:=by
    have o13:Out (fun j=>gq≤j) Y M3:=((Out.of HBU.out).trans (oN.mono fun j _ e=>by have:=hlo j e;omega)).trans (o3.mono fun j _ (hj:j=gq)=>by omega)
    refine HAY.out.mapo (fun xy=>xy.1++[xy.2]) o13 (fun j hj=>by omega) (fun xy hq=>?_) (fun xy l _=>rfl)
    obtain⟨hr,hx,h4⟩:=hq
    have hrY:Rel elS Y (gq+1) (.slice q0 n c0) K xy.1:=hr.outs elS_ok HOY.out (fun j (hj:j=p) _=>by omega)
    have hrU:=hrY.outs elS_ok (Out.of (S:=fun _=>False) HBU.out) (fun _ h=>h.elim)
    have hx2:=elS_ok.on (Q:=fun g=>U.heap.size≤g) HBU.out.size (fun g _ hl=>HBU.out.block g hl) (fun g hg _=>hg) _ _ (slv_rel hx)
    refine⟨?_,h4⟩
    exact (Rel.grown elS_ok (W:=U) hrU (fun k e=>(QU.out.own.lt k e).2) hx2 lU (Nat.le_trans hUY HBU.out.size) oN (by rcases hat with h | h;exact .inl h;exact .inr (by simpa using h))).outs elS_ok o3 (fun j (hj:j=gq) _=>by omega)
   have HL3:=zH (show rleft M3 p≤rleft W p by
    rw[rleft_on (o3.block p (Nat.lt_of_lt_of_le hpY (Nat.le_trans HBU.out.size oN.size)) (by omega)),rleft_on (oN.block p (Nat.lt_of_lt_of_le hpY HBU.out.size) (fun e=>by have:=hlo p e;omega)),rleft_on (HBU.out.block p hpY)]
    exact HLY.out)
   rw[tlQ_fun (lev_shr z 60).o] at A3
   obtain⟨b,hW⟩:=A3.mayWL (s:=kwUnion) (f:=fun acc l=>need z kwAll l (hdQ z (lev z 60).o acc)) (g:=fun acc=>orQ z acc) (by decide)
   have HW:=zH hW
   have HM3:=zH hM3
   have m0:=bxM.c 0 _ rfl
   have ml:=bxM.lt
   have mf:=bxM.fz
   have hp3:p<M3.heap.size:=Nat.lt_of_lt_of_le (Nat.lt_trans hpg ml) o3.size
   obtain⟨n2,hn2⟩:∃ m,m=(K++[(⟨bd,⟨iq,inn,ic⟩,⟨fq,fn,fc⟩,⟨wq,wn,wk⟩,⟨gq0,gn,gc⟩⟩:RawS)]).length:=⟨_,rfl⟩
   rw[← hn2] at hv2
   subst hv2
   have HN2:=zH hn2
   clear hn2 hW A3 hM3 HB3 bxM ON bN oN hat o3 hlo hloY KR HSU HLY HBU Q3 Q2 QY HAY HOY hUY QU d0 d1 d2 d3 d4 kl c0_ cl lU hpY
   go_upto_region 10 with fail
   rw[← HM3.out]
   clear HM3 m0 ml mf
   go_wp2_with fail
   refine HW.out.mono ?_
   rintro e4 N ⟨rfl,hlN,hON,hAN⟩
   have QN:=zH (QM.out.read hON (by omega) (by omega) (by omega))
   have hRN:∀ acc:List Sel,Rel elS M3 (gq+1) (.slice q2 n2 c2) (K++[⟨bd,⟨iq,inn,ic⟩,⟨fq,fn,fc⟩,⟨wq,wn,wk⟩,⟨gq0,gn,gc⟩⟩]) acc→Rel elS N (gq+1) (.slice q2 n2 c2) (K++[⟨bd,⟨iq,inn,ic⟩,⟨fq,fn,fc⟩,⟨wq,wn,wk⟩,⟨gq0,gn,gc⟩⟩]) acc:=fun acc h=>h.outs elS_ok hON (fun j (hj:j=p) _=>by omega)
   cases b with
   | true =>
    have HLN:=zH (show rleft N p<rleft W p from Nat.lt_of_lt_of_le (hlN rfl).1 HL3.out)
    have HK5:=zH (show (K++[(⟨bd,⟨iq,inn,ic⟩,⟨fq,fn,fc⟩,⟨wq,wn,wk⟩,⟨gq0,gn,gc⟩⟩:RawS)]).length≤4 by obtain⟨-,-,-,h4⟩:=hlN rfl;have:=HNN.out;have:=HK4.out;simp;omega)
    have hA2:=AltP.mustWL (s:=kwAll) (f:=fun acc=>hdQ z (lev z 60).o acc) (by decide) hAN
    have MU:=zH hA2
    have HRN:=zH hRN
    clear hlN hON hAN hRN hA2 HW HL3
    go_wp2_with fail
    refine MU.out.mono ?_
    rintro e5 N2 ⟨hl2,rfl,hO2,hA2⟩
    have QN2:=zH (QN.out.read hO2 (by omega) (by omega) (by omega))
    have HA2:=zH (hA2.mapo (Q':=fun acc=>Rel elS N2 (gq+1) (.slice q2 n2 c2) (K++[⟨bd,⟨iq,inn,ic⟩,⟨fq,fn,fc⟩,⟨wq,wn,wk⟩,⟨gq0,gn,gc⟩⟩]) acc) (f':=fun acc=>hdQ z (lev z 60).o acc) id (Out.refl (fun _=>False) _) (fun j h=>h.elim) (fun acc h=>(HRN.out acc h.1).outs elS_ok hO2 (fun j (hj:j=p) _=>by omega)) (fun _ _ _=>rfl))
    have HL2:=zH (show rleft N2 p<rleft W p from Nat.lt_of_le_of_lt hl2 HLN.out)
    clear hl2 hO2 hA2 MU HLN QN
    go_wp2_with fail
    go_roundw
    case rel=>exact⟨_,_,QN2.out,HK5.out,HA2.out⟩
    case measure=>exact HL2.out
   | false =>
    have hA0:=hAN.mapo (Q':=fun acc=>Rel elS N (gq+1) (.slice q2 n2 c2) (K++[⟨bd,⟨iq,inn,ic⟩,⟨fq,fn,fc⟩,⟨wq,wn,wk⟩,⟨gq0,gn,gc⟩⟩]) acc) (f':=fun acc=>orQ z acc) id (Out.refl (fun _=>False) _) (fun j h=>h.elim) (fun acc h=>hRN acc h.1) (fun _ _ _=>rfl)
    rw[orQ_fun z] at hA0
    obtain⟨b2,hW2⟩:=hA0.mayW (s:=kwOrder) (f:=fun acc l=>need z kwBy l fun l=>(listP z (bKey z) l).bind fun o=>bEnd (⟨acc,o⟩:Qu)) (g:=fun acc l=>bEnd (⟨acc,[]⟩:Qu) l) (by decide)
    have HW2:=zH hW2
    clear hlN hON hAN hRN HW HL3 QM hA0 hW2
    obtain⟨KS,hKS⟩:∃ k,k=K++[(⟨bd,⟨iq,inn,ic⟩,⟨fq,fn,fc⟩,⟨wq,wn,wk⟩,⟨gq0,gn,gc⟩⟩:RawS)]:=⟨_,rfl⟩
    rw[← hKS] at QN HW2
    clear hKS HN2
    go_wp2_with fail
    refine HW2.out.mono ?_
    rintro e6 N1 ⟨rfl,hO1,hA1⟩
    have Q1:=zH (QN.out.read hO1 (by omega) (by omega) (by omega))
    have HA1:=zH (hA1.mapo (Q':=fun acc=>Rel elS N1 (gq+1) (.slice q2 n2 c2) KS acc) (f':=if b2=true then (fun acc l=>need z kwBy l fun l=>(listP z (bKey z) l).bind fun o=>bEnd (⟨acc,o⟩:Qu)) else (fun acc l=>bEnd (⟨acc,[]⟩:Qu) l)) id (Out.refl (fun _=>False) _) (fun j h=>h.elim) (fun acc h=>h.outs elS_ok hO1 (fun j (hj:j=p) _=>by omega)) (fun _ _ _=>rfl))
    clear hO1 hA1 HW2 QN
    go_upto_if 55 with fail
    go_cut [] from 56 to 60 (fun wc=>∃ (qo:Option Addr) (no co:Nat),Hid (QB w wc gq gr (.slice q2 n2 c2) (.slice qo no co) KS)∧Hid (AltP wc p z L 0 (fun x:Qu=>QuV (gq+1) wc x (.agg #[.slice q2 n2 c2,.slice qo no co])) (fun x=>bEnd x) res))
    case first =>
     cases b2 with
     | true =>
      have MU:=zH (AltP.mustW (s:=kwBy) (f:=fun acc l=>(listP z (bKey z) l).bind fun o=>bEnd (⟨acc,o⟩:Qu)) (by decide) HA1.out)
      clear HA1
      go_wp2_with fail
      refine MU.out.mono ?_
      rintro e7 N2 ⟨rfl,hO2,hA2⟩
      have Q2:=zH (Q1.out.read hO2 (by omega) (by omega) (by omega))
      have CK:=zH (AltP.call (one:=listP z (bKey z)) (g:=fun acc o=>bEnd (⟨acc,o⟩:Qu)) hA2 (fun res0 s=>rkeys_any res0 N2 s))
      have HO2:=zH hO2
      have l2:gq<N2.heap.size:=Q2.out.box.lt
      clear hO2 hA2 MU
      go_wp2_with fail
      refine CK.out.mono ?_
      rintro e8 N3 ⟨hO3,vo,rfl,⟨qo,no,co,rfl⟩,hA3⟩
      have Q3:=Q2.out.read hO3 (by omega) (by omega) (by omega)
      have l3:=hO3.size
      have k1:=Q3.box.c 1 _ rfl
      have kl:=Q3.box.lt
      have kf:=Q3.box.fz
      have o4:=out_p N3 gq 1 (.slice qo no co)
      have Q4:=zH (show QB w (N3.setCell ⟨gq,1,none⟩ (.slice qo no co)) gq gr (.slice q2 n2 c2) (.slice qo no co) KS from ⟨Q3.box.set1 1 (by simp) _,Q3.res.outs o4 (by omega),Q3.own.kept o4 (fun j (hj:j=gq) e=>by have:=(Q3.own.lt j e).1;omega),Q3.out.trans (o4.mono fun j _ (hj:j=gq)=>by omega)⟩)
      have HA4:=zH (hA3.mapo (Q':=fun x:Qu=>QuV (gq+1) (N3.setCell ⟨gq,1,none⟩ (.slice qo no co)) x (.agg #[.slice q2 n2 c2,.slice qo no co])) (f':=fun x=>bEnd x) (fun xy=>(⟨xy.1,xy.2⟩:Qu)) o4 (fun j (hj:j=gq)=>by omega) (fun xy h=>by
       have hr:Rel elS (N3.setCell ⟨gq,1,none⟩ (.slice qo no co)) (gq+1) (.slice q2 n2 c2) KS xy.1:=((h.1.outs elS_ok HO2.out (fun j (hj:j=p) _=>by omega)).outs elS_ok hO3 (fun j (hj:j=p) _=>by omega)).outs elS_ok o4 (fun j (hj:j=gq) _=>by omega)
       obtain⟨q5,c5,e5,h5,h6⟩:=h.2
       exact quv_of (b:=N2.heap.size) Q4.out.own hr ⟨q5,c5,e5,h5,h6.on elK_ok o4.size (fun g hg hl=>o4.block g hl (fun (e:g=gq)=>by omega)) (fun _ h _=>h)⟩ l2) (fun _ _ _=>rfl))
      clear hO3 hA3 Q3 o4 CK Q2 HO2 l2 l3
      go_wp2_with fail
      go_meet
      exact⟨qo,no,co,Q4.out,HA4.out⟩
     | false =>
      have HA2:=zH (HA1.out.mapo (Q':=fun x:Qu=>QuV (gq+1) N1 x (.agg #[.slice q2 n2 c2,.slice none 0 0])) (f':=fun x=>bEnd x) (fun acc=>(⟨acc,[]⟩:Qu)) (Out.refl (fun _=>False) _) (fun j h=>h.elim) (fun acc h=>quv_of (b:=gq+1) Q1.out.own h ⟨none,0,rfl,Nat.le_refl _,LsM.nil⟩ (Nat.le_refl _)) (fun _ _ _=>rfl))
      clear HA1
      go_wp2_with fail
      go_meet
      exact⟨none,0,0,Q1.out,HA2.out⟩
    case rest =>
    obtain⟨qo,no,co,hQ,hA⟩:=hcut
    obtain⟨F,hF⟩:∃ U,U=wc:=⟨_,rfl⟩
    rw[← hF] at hQ hA ⊢
    have QF:=zH hQ.out
    have r0:=QF.out.res.c 0 _ rfl
    have r1:=QF.out.res.c 1 _ rfl
    have rl:=QF.out.res.lt
    have rf:=QF.out.res.fz
    clear hF hQ Q1 HA1
    rcases hA.out with ⟨x,l,hRO,hx,hend⟩ |⟨er,a,hres,hE⟩
    ·obtain⟨j,pl,hl,hs⟩:=hRO.st
     obtain⟨qq,cc,t0,-⟩:=hs.cL
     have t1:=hs.cA
     have t3:=hs.cE
     have tl:=hs.lt
     have hjl:=hs.jl
     obtain⟨mm,hmm⟩:∃ k,k=L.length:=⟨_,rfl⟩
     rw[← hmm] at t0 hjl
     cases l with
     | nil =>
      have i1:¬ (j:Int)<(mm:Int):=by
       have h1:=congrArg List.length hl
       simp at h1
       omega
      have HRES:=zH (show res=.ok x [] from hend.symm)
      have HX:=zH hx
      have b0:=QF.out.box.c 0 _ rfl
      have b1:=QF.out.box.c 1 _ rfl
      have bl:=QF.out.box.lt
      have o:=out2 F gr (.slice q2 n2 c2) (.slice qo no co)
      have HV:=zH (show QuV w.heap.size _ x (.agg #[.slice q2 n2 c2,.slice qo no co]) from hx.on o.size (fun g hg hl=>o.block g hl (fun (e:g=gr)=>by omega)) (by omega))
      have HO:=zH (QF.out.out.trans (o.mono fun j _ (hj:j=gr)=>by have:=HGR.out;omega))
      clear hl hs hmm hend hx hRO hA o hjl
      go_wp2_with fail
      go_region
      go_wp2_with fail
      refine bodyPost_ret (v:=.tuple #[.agg #[.slice q2 n2 c2,.slice qo no co],.int .i64 0,.int .i64 0]) (by simp[results,Tryz.results6,go_sem,r0,r1]) rfl ⟨?_,(HO.out.trans (Out.drew _)).below (Nat.le_refl _) (fun j hj=>hj)⟩
      rw[HRES.out]
      have bD:=ext_drew (ext_refl ((F.setCell ⟨gr,0,none⟩ (.slice q2 n2 c2)).setCell ⟨gr,1,none⟩ (.slice qo no co)))
      exact⟨_,HV.out.on bD.size (fun g _ hl=>bD.block g hl) (Nat.le_refl _),rfl⟩
     | cons t r =>
      have i1:(j:Int)<(mm:Int):=by
       have h1:=congrArg List.length hl
       simp at h1
       omega
      have HRES:=zH (show res=.err 7 (hAt z (t :: r)) from hend.symm)
      have NO:=zH (rno_ok 7 (by decide) (hRO.below (w':=F.drew) (ext_drew (ext_refl _))))
      have QD:=zH (QF.out.below (V':=F.drew) (ext_drew (ext_refl _)))
      clear hl hs hmm hend hx hRO hA hjl r0 r1 rl rf QF
      go_wp2_with fail
      go_region
      clear i1 t0 t1 t3 tl
      go_wp2_with fail
      refine NO.out.mono ?_
      rintro e9 G ⟨rfl,hE,hO⟩
      have QG:=zH (QD.out.read hO (by omega) (by omega) (by omega))
      obtain⟨er,her⟩:∃ e:Nat,e=7:=⟨_,rfl⟩
      obtain⟨a,ha⟩:∃ b,b=hAt z (t :: r):=⟨_,rfl⟩
      rw[← her,← ha] at HRES hE
      clear her ha NO hO QD
      have RET:=zH (And.intro HRES.out (And.intro hE QG.out))
      clear HRES hE QG
      obtain⟨hres,hE,hQ⟩:=RET.out
      obtain⟨jj,dd,hs⟩:=hE.st
      have t3:=hs.cE
      have t4:=hs.cP
      have tl:=hs.lt
      have r0:=hQ.res.c 0 _ rfl
      have r1:=hQ.res.c 1 _ rfl
      have rl:=hQ.res.lt
      have rf:=hQ.res.fz
      have f0:((er:Int) == 0)=false:=by rw[beq_eq_false_iff_ne];have:=hE.ne;omega
      have f1:((er:Int) != 0)=true:=by rw[bne_iff_ne];have:=hE.ne;omega
      have HRES:=zH hres
      have o:=out2 G gr (.slice none 0 0) (.slice none 0 0)
      have HO:=zH (hQ.out.trans (o.mono fun j _ (hj:j=gr)=>by have:=HGR.out;omega))
      clear hs hE hQ o hres
      go_wp2_with fail
      go_region
      go_wp2_with fail
      refine bodyPost_ret (v:=.tuple #[.agg #[.slice none 0 0,.slice none 0 0],.int .i64 (er:Int),.int .i64 (a:Int)]) (by simp[results,Tryz.results6,go_sem,r0,r1]) rfl ⟨?_,(HO.out.trans (Out.drew _)).below (Nat.le_refl _) (fun j hj=>hj)⟩
      rw[HRES.out]
      rfl
    ·have hQ:=QF.out
     clear r0 r1 rl rf QF hA
     obtain⟨jj,dd,hs⟩:=hE.st
     have t3:=hs.cE
     have t4:=hs.cP
     have tl:=hs.lt
     have r0:=hQ.res.c 0 _ rfl
     have r1:=hQ.res.c 1 _ rfl
     have rl:=hQ.res.lt
     have rf:=hQ.res.fz
     have f0:((er:Int) == 0)=false:=by rw[beq_eq_false_iff_ne];have:=hE.ne;omega
     have f1:((er:Int) != 0)=true:=by rw[bne_iff_ne];have:=hE.ne;omega
     have HRES:=zH hres
     have o:=out2 F gr (.slice none 0 0) (.slice none 0 0)
     have HO:=zH (hQ.out.trans (o.mono fun j _ (hj:j=gr)=>by have:=HGR.out;omega))
     clear hs hE hQ o hres
     go_wp2_with fail
     go_region
     go_wp2_with fail
     go_region
     go_wp2_with fail
     refine bodyPost_ret (v:=.tuple #[.agg #[.slice none 0 0,.slice none 0 0],.int .i64 (er:Int),.int .i64 (a:Int)]) (by simp[results,Tryz.results6,go_sem,r0,r1]) rfl ⟨?_,((HO.out.trans (Out.drew _)).trans (Out.drew _)).below (Nat.le_refl _) (fun j hj=>hj)⟩
     rw[HRES.out]
     rfl
theorem rparse_res (s:ByteArray) (r:PQ) (hr:parseS s.data.toList=r) (w:World) (hs:s.size≤9223372036854775807):Calls Tryz.prog 6 #[.string s] w fun e w' =>
  (∃ qs ns cs qo no co,QuM w' r.q qs ns cs qo no co∧e=.returned (.tuple #[.agg #[.slice qs ns cs,.slice qo no co],.int .i64 (r.e:Int),.int .i64 (r.at_:Int)]))∧Below w.heap.size w w':=by
 have key:Calls Tryz.prog 6 #[.string s] w fun e w'=>PAns r w.heap.size w' e∧Below w.heap.size w w':=by
  rw[← hr]
  unfold parseS
  cases hl:lexS s.data.toList with
  | err er a =>
   have he:er≠0:=by
    unfold lexS at hl
    split at hl
    ·cases hl;decide
    ·rcases (lexL_errs _ _ _ _ _ hl).1 with h | h <;> omega
   exact rparse_bad s w hs er a he hl
  | ok L =>
   dsimp only
   refine (rparse_good s w hs L hl _ rfl).mono fun e w' h=>?_
   rw[show s.data.toList.length=s.size from rfl]
   cases hb:bQuery s.size (lev s.size 60).o L with
   | err er a=>rw[hb] at h;exact h
   | ok q l=>rw[hb] at h;exact h
 refine key.mono fun e w' h=>⟨?_,h.2⟩
 cases hp:r with
 | err er a=>exact⟨_,_,_,_,_,_,QuM.nil w',h.1.err hp⟩
 | ok q =>
  obtain⟨qs,ns,cs,qo,no,co,hm,-,e⟩:=h.1.ok hp
  exact⟨qs,ns,cs,qo,no,co,hm,e⟩
set_option linter.unusedSimpArgs false
set_option linter.unusedVariables false
set_option maxHeartbeats 8000000 in
theorem reads9_walk (s:ByteArray) (hs:s.size≤9223372036854775807) (w:World) (hG:GV w):Calls Tryz.prog 3 #[.string s] w fun e w'=>e=.returned (.bool true)∧Below w.heap.size w w':=by
 obtain⟨r1,hr1⟩:∃ r,parseS s.data.toList=r:=⟨_,rfl⟩
 have R1:=zH hr1
 have OK1:=zH (show OkQ r1.q by rw[← hr1];exact OkQ.all _)
 have S1:=zH hs
 clear hs hr1
 go_enter Tryz.func3,Tryz.ntmps3
 go_wp2_with fail
 refine (ex9_any w hG).mono ?_
 rintro e w1 ⟨rfl,hb1⟩
 have Gw1:=hG.on hb1
 have BW:=zH hb1
 clear hb1 hG
 go_wp2_with fail
 refine (parse_res s r1 R1.out w1 Gw1 S1.out).mono ?_
 rintro e w1 ⟨⟨q1,n1,c1,o1,m1,d1,hm,rfl⟩,hb⟩
 obtain⟨A1,hA⟩:∃ A,A=w1.alloc (.cells #[.slice q1 n1 c1,.slice o1 m1 d1] 26):=⟨_,rfl⟩
 have K0:BkA A1 w1.heap.size [.slice q1 n1 c1,.slice o1 m1 d1]:=by rw[hA];exact BkA.new w1 [.slice q1 n1 c1,.slice o1 m1 d1] 26
 have bA:Below w1.heap.size w1 A1:=by rw[hA];exact ext_alloc (ext_refl _) _
 have bW:=hb.trans (bA.mono hb.size)
 have M1:=zH (hm.on bA)
 have K1:=zH K0
 have B1:=zH (BW.out.trans (bW.mono BW.out.size))
 have HA:=zH hA
 clear hm hb K0 bA bW hA Gw1 BW
 go_upto_region 3 with fail
 rw[← HA.out]
 clear HA
 obtain⟨g1,hg⟩:∃ g,g=w1.heap.size:=⟨_,rfl⟩
 rw[← hg] at K1 ⊢
 clear hg
 go_wp2_with fail
 refine (rparse_res s r1 R1.out A1 S1.out).mono ?_
 rintro e w2 ⟨⟨q2,n2,c2,o2,m2,d2,hm,rfl⟩,hb⟩
 obtain⟨A2,hA⟩:∃ A,A=w2.alloc (.cells #[.slice q2 n2 c2,.slice o2 m2 d2] 26):=⟨_,rfl⟩
 have K0:BkA A2 w2.heap.size [.slice q2 n2 c2,.slice o2 m2 d2]:=by rw[hA];exact BkA.new w2 [.slice q2 n2 c2,.slice o2 m2 d2] 26
 have bA:Below w2.heap.size w2 A2:=by rw[hA];exact ext_alloc (ext_refl _) _
 have bW:=hb.trans (bA.mono hb.size)
 have M2:=zH (hm.on bA)
 have K2:=zH K0
 replace M1:=zH (M1.out.on bW)
 replace K1:=zH (K1.out.on bW)
 have B2:=zH (B1.out.trans (bW.mono B1.out.size))
 have HA:=zH hA
 clear hm hb K0 bA bW hA B1
 go_upto_region 4 with fail
 rw[← HA.out]
 clear HA
 obtain⟨g2,hg⟩:∃ g,g=w2.heap.size:=⟨_,rfl⟩
 rw[← hg] at K2 ⊢
 clear hg
 obtain⟨x1,hx1⟩:∃ x,x=r1.e:=⟨_,rfl⟩
 obtain⟨y1,hy1⟩:∃ x,x=r1.at_:=⟨_,rfl⟩
 rw[← hx1,← hy1]
 have lt1:=K1.out.lt
 have u1:=K1.out.c 0 _ rfl
 have v1:=K1.out.c 1 _ rfl
 have lt2:=K2.out.lt
 have u2:=K2.out.c 0 _ rfl
 have v2:=K2.out.c 1 _ rfl
 have QA:=zH (queries_any r1.q OK1.out q1 n1 c1 o1 m1 d1 q2 n2 c2 o2 m2 d2 A2 M1.out M2.out)
 clear hx1 hy1
 go_wp2_with fail
 refine QA.out.mono ?_
 rintro e w5 ⟨rfl,hb⟩
 have B5:=zH (B2.out.trans (hb.mono B2.out.size))
 clear hb QA lt1 u1 v1 lt2 u2 v2 M1 M2 K1 K2
 go_wp2_with fail
 exact bodyPost_ret (v:=.bool true) (by simp[results,Tryz.results3,go_sem]) rfl ⟨rfl,B5.out⟩
end Go.Proofs.YtapbglhjamddbaaGreatDoor
