/- A part of the proof. -/
import Derived.Test.YtapbglhjamddbaaGreatDoorQaA
import Derived.BigQuiet
import Derived.Test.YtapbglhjamddbaaGreatDoorHd
set_option linter.unusedSimpArgs false
set_option linter.unusedVariables false
namespace Go.Proofs.YtapbglhjamddbaaGreatDoor
open Go.RowKit Go.Deep
set_option maxRecDepth 100000
structure RSt (w:World) (p z:Nat) (T:List Tok) (j er pl:Nat) (d:Int):Prop where
 cL:∃ q c,w.cell? ⟨p,0,none⟩=some (.slice q T.length c)∧T.length≤c∧c≤9223372036854775807∧ArrA 0 p q 4 T (TokC w)
 cA:w.cell? ⟨p,1,none⟩=some (.int .i64 (j:Int))
 cZ:w.cell? ⟨p,2,none⟩=some (.int .i64 (z:Int))
 cE:w.cell? ⟨p,3,none⟩=some (.int .i64 (er:Int))
 cP:w.cell? ⟨p,4,none⟩=some (.int .i64 (pl:Int))
 cD:w.cell? ⟨p,5,none⟩=some (.int .i64 d)
 fz:∀ o,w.frozen? ⟨p,o,none⟩=false
 lt:p<w.heap.size
 jl:j≤T.length
 tk:Toks z T
theorem RSt.outs {S:Nat→Prop} {w w':World} {p z j er pl:Nat} {d:Int} {T:List Tok} (h:RSt w p z T j er pl d) (o:Out S w w') (hS:∀ k,S k→p<k):RSt w' p z T j er pl d:=by
 have hp:¬ S p:=fun e=>by have:=hS p e;omega
 have hb:=o.block p h.lt hp
 obtain⟨q,c,h1,h2,h3,h4⟩:=h.cL
 refine⟨⟨q,c,(World.cell?_of_block (w:=w) hb).trans h1,h2,h3,h4.imp fun g k t _ hg ht=>ht.keep (o.block g (Nat.lt_trans hg h.lt) fun e=>by have:=hS g e;omega)⟩,(World.cell?_of_block (w:=w) hb).trans h.cA,(World.cell?_of_block (w:=w) hb).trans h.cZ,(World.cell?_of_block (w:=w) hb).trans h.cE,(World.cell?_of_block (w:=w) hb).trans h.cP,(World.cell?_of_block (w:=w) hb).trans h.cD,fun i=>?_,Nat.lt_of_lt_of_le h.lt o.size,h.jl,h.tk⟩
 have h1:=h.fz i
 unfold World.frozen? at h1 ⊢
 rw[hb]
 exact h1
theorem RSt.below {w w':World} {p z j er pl:Nat} {d:Int} {T:List Tok} (h:RSt w p z T j er pl d) (hb:Below w.heap.size w w'):RSt w' p z T j er pl d:=h.outs (Out.of (S:=fun _=>False) hb) fun _ h=>h.elim
theorem out_p (w:World) (p k:Nat) (u:Value):Out (fun j=>j=p) w (w.setCell ⟨p,k,none⟩ u):=Out.set (S:=fun j=>j=p) (a:=w) ⟨p,k,none⟩ u rfl
theorem RSt.toks {w:World} {p z j er pl k:Nat} {u:Value} {d:Int} {T:List Tok} (h:RSt w p z T j er pl d) {q:Option Addr} (h4:ArrA 0 p q 4 T (TokC w)):ArrA 0 p q 4 T (TokC (w.setCell ⟨p,k,none⟩ u)):=h4.imp fun g i t _ hg ht=>ht.keep ((out_p w p k u).block g (Nat.lt_trans hg h.lt) (by omega))
theorem set_oth {w:World} {p i k:Nat} {u v:Value} (h:w.cell? ⟨p,i,none⟩=some v) (hk:i≠k):(w.setCell ⟨p,k,none⟩ u).cell? ⟨p,i,none⟩=some v:=(World.cell?_setCell_other _ _ _ _ (fun e=>hk (by cases e;rfl))).trans h
theorem RSt.setA {w:World} {p z j er pl:Nat} {d:Int} {T:List Tok} (h:RSt w p z T j er pl d) {i:Nat} (hi:i≤T.length):RSt (w.setCell ⟨p,1,none⟩ (.int .i64 (i:Int))) p z T i er pl d:=by
 obtain⟨q,c,h1,h2,h3,h4⟩:=h.cL
 exact⟨⟨q,c,set_oth h1 (by omega),h2,h3,h.toks h4⟩,cell_set_self h.cA,set_oth h.cZ (by omega),set_oth h.cE (by omega),set_oth h.cP (by omega),set_oth h.cD (by omega),fun i=>by rw[World.frozen?_setCell];exact h.fz i,Nat.lt_of_lt_of_le h.lt (out_p w p 1 _).size,hi,h.tk⟩
theorem RSt.setE {w:World} {p z j er pl:Nat} {d:Int} {T:List Tok} (h:RSt w p z T j er pl d) (i:Nat):RSt (w.setCell ⟨p,3,none⟩ (.int .i64 (i:Int))) p z T j i pl d:=by
 obtain⟨q,c,h1,h2,h3,h4⟩:=h.cL
 exact⟨⟨q,c,set_oth h1 (by omega),h2,h3,h.toks h4⟩,set_oth h.cA (by omega),set_oth h.cZ (by omega),cell_set_self h.cE,set_oth h.cP (by omega),set_oth h.cD (by omega),fun i=>by rw[World.frozen?_setCell];exact h.fz i,Nat.lt_of_lt_of_le h.lt (out_p w p 3 _).size,h.jl,h.tk⟩
theorem RSt.setP {w:World} {p z j er pl:Nat} {d:Int} {T:List Tok} (h:RSt w p z T j er pl d) (i:Nat):RSt (w.setCell ⟨p,4,none⟩ (.int .i64 (i:Int))) p z T j er i d:=by
 obtain⟨q,c,h1,h2,h3,h4⟩:=h.cL
 exact⟨⟨q,c,set_oth h1 (by omega),h2,h3,h.toks h4⟩,set_oth h.cA (by omega),set_oth h.cZ (by omega),set_oth h.cE (by omega),cell_set_self h.cP,set_oth h.cD (by omega),fun i=>by rw[World.frozen?_setCell];exact h.fz i,Nat.lt_of_lt_of_le h.lt (out_p w p 4 _).size,h.jl,h.tk⟩
theorem RSt.setD {w:World} {p z j er pl:Nat} {d:Int} {T:List Tok} (h:RSt w p z T j er pl d) (i:Int):RSt (w.setCell ⟨p,5,none⟩ (.int .i64 i)) p z T j er pl i:=by
 obtain⟨q,c,h1,h2,h3,h4⟩:=h.cL
 exact⟨⟨q,c,set_oth h1 (by omega),h2,h3,h.toks h4⟩,set_oth h.cA (by omega),set_oth h.cZ (by omega),set_oth h.cE (by omega),set_oth h.cP (by omega),cell_set_self h.cD,fun i=>by rw[World.frozen?_setCell];exact h.fz i,Nat.lt_of_lt_of_le h.lt (out_p w p 5 _).size,h.jl,h.tk⟩
structure RO (w:World) (p z:Nat) (T l:List Tok) (k:Nat):Prop where
 st:∃ j pl,l=T.drop j∧RSt w p z T j 0 pl (k:Int)
 ks:k≤60
structure RE (w:World) (p z:Nat) (T:List Tok) (er a:Nat):Prop where
 st:∃ j d,RSt w p z T j er a d
 ne:er≠0
theorem RO.outs {S:Nat→Prop} {w w':World} {p z k:Nat} {T l:List Tok} (h:RO w p z T l k) (o:Out S w w') (hS:∀ k,S k→p<k):RO w' p z T l k:=⟨h.st.imp fun j ⟨pl,e,hs⟩=>⟨pl,e,hs.outs o hS⟩,h.ks⟩
theorem RO.below {w w':World} {p z k:Nat} {T l:List Tok} (h:RO w p z T l k) (hb:Below w.heap.size w w'):RO w' p z T l k:=h.outs (Out.of (S:=fun _=>False) hb) fun _ h=>h.elim
theorem RE.outs {S:Nat→Prop} {w w':World} {p z er a:Nat} {T:List Tok} (h:RE w p z T er a) (o:Out S w w') (hS:∀ k,S k→p<k):RE w' p z T er a:=⟨h.st.imp fun j ⟨pl,hs⟩=>⟨pl,hs.outs o hS⟩,h.ne⟩
theorem RE.below {w w':World} {p z er a:Nat} {T:List Tok} (h:RE w p z T er a) (hb:Below w.heap.size w w'):RE w' p z T er a:=h.outs (Out.of (S:=fun _=>False) hb) fun _ h=>h.elim
theorem RO.toks {w:World} {p z k:Nat} {T l:List Tok} (h:RO w p z T l k):Toks z l:=by
 obtain⟨j,pl,rfl,hs⟩:=h.st
 exact Toks.app (p:=T.take j) (by rw[List.take_append_drop];exact hs.tk)
theorem RO.lt {w:World} {p z k:Nat} {T l:List Tok} (h:RO w p z T l k):p<w.heap.size:=by obtain⟨j,pl,rfl,hs⟩:=h.st;exact hs.lt
theorem RE.lt {w:World} {p z er a:Nat} {T:List Tok} (h:RE w p z T er a):p<w.heap.size:=by obtain⟨j,d,hs⟩:=h.st;exact hs.lt
theorem drop_hd {T:List Tok} {j z:Nat} {t:Tok} (h:T[j]?=some t):hd z (T.drop j)=t:=by
 obtain⟨h1,rfl⟩:=List.getElem?_eq_some_iff.1 h
 rw[List.drop_eq_getElem_cons h1]
 rfl
theorem Tryz.tokAt7 (k n a:Int) (s:ByteArray) (w:World):(Instr.field 82 (.agg #[.int .i64 k,.int .i64 n,.int .i64 a,.string s]) 2).run Tryz.prog w=.ok (.int .i64 a) w:=by kernel_rfl
set_option maxHeartbeats 2000000 in
theorem rhere_any (p z:Nat) (T:List Tok) (j er pl:Nat) (d:Int) (w:World) (h:RSt w p z T j er pl d):Calls Tryz.prog 28 #[.pointer (some ⟨p,0,none⟩)] w fun e w'=>e=.returned (Value.agg #[.int .i64 ((hd z (T.drop j)).kd:Int),.int .i64 ((hd z (T.drop j)).n:Int),.int .i64 ((hd z (T.drop j)).at_:Int),.string (bsB (hd z (T.drop j)).s)])∧Below w.heap.size w w':=by
 have c1:=h.cA
 have c2:=h.cZ
 obtain⟨q,c,c0,hc1,hc2,harr⟩:=h.cL
 have lp:=h.lt
 have hjl:=h.jl
 obtain⟨n,hn⟩:∃ n,n=T.length:=⟨_,rfl⟩
 rw[← hn] at c0 hjl hc1
 have HN:=zH hn
 have HA:=zH harr
 by_cases hj:j<n
 ·obtain⟨t,ht⟩:∃ t,T[j]?=some t:=⟨_,List.getElem?_eq_getElem (by omega)⟩
  obtain⟨g,off,rfl,-,hg,hcc⟩:=harr j (by omega)
  obtain⟨f0,f1,f2,f3⟩:=hcc j t ht
  rw[drop_hd ht]
  obtain⟨kd,tn,ta,ts⟩:=t
  have lg:g<w.heap.size:=Nat.lt_trans hg lp
  have i1:(j:Int)<(n:Int):=by omega
  clear h harr hcc ht hn
  go_enter Tryz.func28,Tryz.ntmps28
  go_wp2_with fail
  go_region
  go_wp2_with fail
  go_region
  go_wp2_with fail
  refine bodyPost_ret (v:=.agg #[.int .i64 (kd:Int),.int .i64 (tn:Int),.int .i64 (ta:Int),.string (bsB ts)]) (by simp[results,Tryz.results28,go_sem]) rfl ⟨rfl,?_⟩
  (repeat (first | exact ext_refl _ | assumption |(refine ext_alloc ?_ _) |(refine ext_drewN ?_ _) | refine ext_drew ?_ |(refine ext_set (by first |(simp;done) |(simp;omega)) _ ?_) |(refine ext_trans ?_ (by assumption))))
 ·have i1:¬ (j:Int)<(n:Int):=by omega
  have hdz:hd z (T.drop j)=endTok z:=by rw[List.drop_eq_nil_of_le (by omega)];rfl
  rw[hdz]
  clear h harr hn hdz
  go_enter Tryz.func28,Tryz.ntmps28
  go_wp2_with fail
  go_region
  go_wp2_with fail
  refine bodyPost_ret (v:=.agg #[.int .i64 0,.int .i64 0,.int .i64 (z:Int),.string ⟨#[]⟩]) (by simp[results,Tryz.results28,go_sem]) rfl ⟨rfl,?_⟩
  (repeat (first | exact ext_refl _ | assumption |(refine ext_alloc ?_ _) |(refine ext_drewN ?_ _) | refine ext_drew ?_ |(refine ext_set (by first |(simp;done) |(simp;omega)) _ ?_) |(refine ext_trans ?_ (by assumption))))
set_option maxHeartbeats 2000000 in
theorem rno_first (p z:Nat) (T:List Tok) (j pl er:Nat) (d:Int) (w:World) (h:RSt w p z T j 0 pl d):Calls Tryz.prog 13 #[.pointer (some ⟨p,0,none⟩),.int .i64 (er:Int)] w fun e w'=>e=.returned (.tuple #[])∧RSt w' p z T j er (hAt z (T.drop j)) d∧Out (fun j=>j=p) w w':=by
 have H1:=h.setE er
 have O1:=out_p w p 3 (.int .i64 (er:Int))
 have c3:=h.cE
 have fz:=h.fz
 have lp:=h.lt
 obtain⟨V,hV⟩:∃ V,V=w.setCell ⟨p,3,none⟩ (.int .i64 (er:Int)):=⟨_,rfl⟩
 rw[← hV] at H1 O1
 have C:=zH (rhere_any p z T j er pl d V H1)
 rw[hAt_hd]
 obtain⟨⟨kd,n,a,s⟩,ht⟩:∃ t,t=hd z (T.drop j):=⟨_,rfl⟩
 rw[← ht] at C ⊢
 have HV:=zH hV
 have H:=zH H1
 have HO:=zH O1
 clear h ht hV H1 O1
 go_enter Tryz.func13,Tryz.ntmps13
 go_upto_region 2 with fail
 rw[← HV.out]
 clear HV c3 fz
 have fa:=fun w=>Tryz.tokAt7 kd n a (bsB s) w
 go_wp2_with fail
 refine C.out.mono ?_
 rintro e X ⟨rfl,hb⟩
 have HX:=zH (H.out.below hb)
 have OX:=zH (HO.out.trans (Out.of hb))
 have c4:=(H.out.below hb).cP
 have fz:=(H.out.below hb).fz
 have lp:=(H.out.below hb).lt
 clear hb
 go_wp2_with fail
 exact bodyPost_end (results_none (by rfl) _ _ _) rfl ⟨rfl,HX.out.setP a,OX.out.trans (out_p _ _ _ _)⟩
set_option maxHeartbeats 2000000 in
theorem rno_more (p z:Nat) (T:List Tok) (er a er2:Nat) (w:World) (h:RE w p z T er a):Calls Tryz.prog 13 #[.pointer (some ⟨p,0,none⟩),.int .i64 (er2:Int)] w fun e w'=>e=.returned (.tuple #[])∧Below w.heap.size w w':=by
 obtain⟨j,d,hs⟩:=h.st
 have c3:=hs.cE
 have lp:=hs.lt
 have hne:((er:Int) == 0)=false:=by rw[beq_eq_false_iff_ne];have:=h.ne;omega
 clear h hs
 go_enter Tryz.func13,Tryz.ntmps13
 go_wp2_with fail
 exact bodyPost_end (results_none (by rfl) _ _ _) rfl ⟨rfl,Below.refl _ _⟩
theorem rno_ok {p z k:Nat} {T l:List Tok} (er:Nat) (hne:er≠0) {w:World} (h:RO w p z T l k):Calls Tryz.prog 13 #[.pointer (some ⟨p,0,none⟩),.int .i64 (er:Int)] w fun e w'=>e=.returned (.tuple #[])∧RE w' p z T er (hAt z l)∧Out (fun j=>j=p) w w':=by
 obtain⟨j,pl,rfl,hs⟩:=h.st
 exact (rno_first p z T j pl er _ w hs).mono fun e w' ⟨h1,h2,h3⟩=>⟨h1,⟨⟨j,_,h2⟩,hne⟩,h3⟩
def rIs (kd:Nat) (s:Bs):List Tok→Bool
 | []=>false
 | t :: _=>t.kd == kd && t.s == s
theorem rIs_hd {kd:Nat} (h:kd≠0) (s:Bs) (z:Nat) (l:List Tok):rIs kd s l=((hd z l).kd == kd && (hd z l).s == s):=by
 cases l with
 | nil=>show false=((0:Nat) == kd && _);rw[show ((0:Nat) == kd)=false by rw[beq_eq_false_iff_ne];omega];rfl
 | cons t r=>rfl
set_option maxHeartbeats 2000000 in
theorem ris_ok (p z k:Nat) (T l:List Tok) (kd:Nat) (hk:kd≠0) (s:Bs) (w:World) (h:RO w p z T l k):Calls Tryz.prog 12 #[.pointer (some ⟨p,0,none⟩),.int .i64 (kd:Int),.string (bsB s)] w fun e w'=>e=.returned (.bool (rIs kd s l))∧Below w.heap.size w w':=by
 rw[rIs_hd hk s z]
 obtain⟨j,pl,rfl,hs⟩:=h.st
 have C:=zH (rhere_any p z T j 0 pl k w hs)
 have HS:=zH hs
 obtain⟨⟨kt,n,a,t⟩,ht⟩:∃ t,t=hd z (T.drop j):=⟨_,rfl⟩
 rw[← ht] at C ⊢
 clear h ht hs hk
 by_cases h1:kt=kd
 ·subst h1
  go_enter Tryz.func12,Tryz.ntmps12
  go_wp2_with fail
  refine C.out.mono ?_
  rintro e V ⟨rfl,hb⟩
  have c3:=(HS.out.below hb).cE
  have lp:=(HS.out.below hb).lt
  go_wp2_with fail
  refine bodyPost_ret (v:=.bool (t == s)) (by simp[results,Tryz.results12,go_sem]) rfl ⟨by simp,?_⟩
  (repeat (first | exact ext_refl _ | assumption |(refine ext_alloc ?_ _) |(refine ext_drewN ?_ _) | refine ext_drew ?_ |(refine ext_set (by first |(simp;done) |(simp;omega)) _ ?_) |(refine ext_trans ?_ (by assumption))))
 ·have i1:((kt:Int) == (kd:Int))=false:=by rw[beq_eq_false_iff_ne];omega
  have i2:(kt == kd)=false:=by rw[beq_eq_false_iff_ne];exact h1
  have H1:=zH i2
  clear h1 i2
  go_enter Tryz.func12,Tryz.ntmps12
  go_wp2_with fail
  refine C.out.mono ?_
  rintro e V ⟨rfl,hb⟩
  have c3:=(HS.out.below hb).cE
  have lp:=(HS.out.below hb).lt
  go_wp2_with fail
  refine bodyPost_ret (v:=.bool false) (by simp[results,Tryz.results12,go_sem]) rfl ⟨by rw[H1.out];rfl,?_⟩
  (repeat (first | exact ext_refl _ | assumption |(refine ext_alloc ?_ _) |(refine ext_drewN ?_ _) | refine ext_drew ?_ |(refine ext_set (by first |(simp;done) |(simp;omega)) _ ?_) |(refine ext_trans ?_ (by assumption))))
set_option maxHeartbeats 2000000 in
theorem ris_err (p z:Nat) (T:List Tok) (er a:Nat) (kd:Int) (s:ByteArray) (w:World) (h:RE w p z T er a):Calls Tryz.prog 12 #[.pointer (some ⟨p,0,none⟩),.int .i64 kd,.string s] w fun e w'=>e=.returned (.bool false)∧Below w.heap.size w w':=by
 obtain⟨j,d,hs⟩:=h.st
 have C:=zH (rhere_any p z T j er a d w hs)
 have HS:=zH hs
 obtain⟨⟨kt,n,at_,t⟩,ht⟩:∃ t,t=hd z (T.drop j):=⟨_,rfl⟩
 rw[← ht] at C
 have hne:((er:Int) == 0)=false:=by rw[beq_eq_false_iff_ne];have:=h.ne;omega
 clear h ht hs
 go_enter Tryz.func12,Tryz.ntmps12
 go_wp2_with fail
 refine C.out.mono ?_
 rintro e V ⟨rfl,hb⟩
 have c3:=(HS.out.below hb).cE
 have lp:=(HS.out.below hb).lt
 go_wp2_with fail
 refine bodyPost_ret (v:=.bool false) (by simp[results,Tryz.results12,go_sem]) rfl ⟨rfl,?_⟩
 (repeat (first | exact ext_refl _ | assumption |(refine ext_alloc ?_ _) |(refine ext_drewN ?_ _) | refine ext_drew ?_ |(refine ext_set (by first |(simp;done) |(simp;omega)) _ ?_) |(refine ext_trans ?_ (by assumption))))
set_option linter.unusedSimpArgs false
set_option linter.unusedVariables false
theorem out4 (X:World) (g:Nat) (v0 v1 v2 v3:Value):Out (fun j=>j=g) X ((((X.setCell ⟨g,0,none⟩ v0).setCell ⟨g,1,none⟩ v1).setCell ⟨g,2,none⟩ v2).setCell ⟨g,3,none⟩ v3):=((((Out.refl _ X).trans (Out.set (S:=fun j=>j=g) ⟨g,0,none⟩ v0 rfl)).trans (Out.set (S:=fun j=>j=g) ⟨g,1,none⟩ v1 rfl)).trans (Out.set (S:=fun j=>j=g) ⟨g,2,none⟩ v2 rfl)).trans (Out.set (S:=fun j=>j=g) ⟨g,3,none⟩ v3 rfl)
set_option maxHeartbeats 2000000 in
theorem need_no (p z k:Nat) (l:List Tok) (s:Bs) (w:World) (h:PSt w p z l k) (hs:hSees s l=false):Calls Tryz.prog 22 #[.pointer (some ⟨p,0,none⟩),.string (bsB s)] w fun e w'=>e=faultE 7 (hAt z l)∧PE w' p∧Out (fun j=>j=p) w w':=by
 have b0:Below w.heap.size w (w.alloc (.cells zTok.toArray 55)):=ext_alloc (ext_refl _) _
 have HP:=zH (h.below b0)
 have H:=zH (look_any p z k l _ HP.out)
 have HS:=zH hs
 have B0:=zH b0
 obtain⟨⟨kd,n,a,st⟩,ht⟩:∃ t,t=hd z l:=⟨_,rfl⟩
 rw[← ht] at H
 clear h b0 hs ht
 go_enter Tryz.func22,Tryz.ntmps22
 go_wp2_with fail
 refine H.out.mono ?_
 rintro e V ⟨rfl,hb⟩
 have BV:=zH (B0.out.trans (hb.mono B0.out.size))
 have b1:Below V.heap.size V (V.alloc (.cells #[.int .i64 (kd:Int),.int .i64 (n:Int),.int .i64 (a:Int),.string (bsB st)] 55)):=ext_alloc (ext_refl _) _
 have HP1:=zH ((HP.out.below hb).below b1)
 have T:=zH (take_no p z k l s _ HP1.out HS.out)
 have B1:=zH (BV.out.trans (b1.mono BV.out.size))
 clear hb b1
 go_wp2_with fail
 refine T.out.mono ?_
 rintro e X ⟨rfl,hb⟩
 have HPX:=zH (HP1.out.below hb)
 have BX:=zH (B1.out.trans (hb.mono B1.out.size))
 clear hb
 go_wp2_with fail
 refine (wrong_any p z k l 7 X HPX.out).mono ?_
 rintro e Y ⟨rfl,hb⟩
 go_wp2_with fail
 exact⟨rfl,rfl,(HPX.out.below hb).pe,(Out.of BX.out).trans (Out.of hb)⟩
set_option maxHeartbeats 2000000 in
theorem read_no (p z k:Nat) (l:List Tok) (kind:Nat) (w:World) (h:PSt w p z l k) (hs:(hd z l).kd≠kind):Calls Tryz.prog 55 #[.pointer (some ⟨p,0,none⟩),.int .i64 (kind:Int)] w fun e w'=>e=faultE 7 (hAt z l)∧PE w' p∧Out (fun j=>j=p) w w':=by
 have b0:Below w.heap.size w (w.alloc (.cells zTok.toArray 55)):=ext_alloc (ext_refl _) _
 have HP:=zH (h.below b0)
 have H:=zH (look_any p z k l _ HP.out)
 have B0:=zH b0
 obtain⟨⟨kd,n,a,st⟩,ht⟩:∃ t,t=hd z l:=⟨_,rfl⟩
 rw[← ht] at H hs
 have hne:((kd:Int) != (kind:Int))=true:=by rw[bne_iff_ne];simp only at hs;omega
 clear h b0 hs ht
 go_enter Tryz.func55,Tryz.ntmps55
 go_wp2_with fail
 refine H.out.mono ?_
 rintro e V ⟨rfl,hb⟩
 have BV:=zH (B0.out.trans (hb.mono B0.out.size))
 have b1:Below V.heap.size V (V.alloc (.cells #[.int .i64 (kd:Int),.int .i64 (n:Int),.int .i64 (a:Int),.string (bsB st)] 55)):=ext_alloc (ext_refl _) _
 have HP1:=zH ((HP.out.below hb).below b1)
 have B1:=zH (BV.out.trans (b1.mono BV.out.size))
 clear hb b1
 go_wp2_with fail
 refine (wrong_any p z k l 7 _ HP1.out).mono ?_
 rintro e Y ⟨rfl,hb⟩
 go_wp2_with fail
 exact⟨rfl,rfl,(HP1.out.below hb).pe,(Out.of B1.out).trans (Out.of hb)⟩
set_option maxHeartbeats 2000000 in
theorem read_yes (p z k:Nat) (t:Tok) (r:List Tok) (kind:Nat) (w:World) (h:PSt w p z (t :: r) k) (hs:t.kd=kind):Calls Tryz.prog 55 #[.pointer (some ⟨p,0,none⟩),.int .i64 (kind:Int)] w fun e w'=>e=.returned (Value.agg #[.int .i64 (t.kd:Int),.int .i64 (t.n:Int),.int .i64 (t.at_:Int),.string (bsB t.s)])∧PSt w' p z r k∧Out (fun j=>j=p) w w':=by
 have b0:Below w.heap.size w (w.alloc (.cells zTok.toArray 55)):=ext_alloc (ext_refl _) _
 have lp:=h.lt
 have HP:=zH (h.below b0)
 have H:=zH (look_any p z k (t :: r) _ HP.out)
 have B0:=zH b0
 have N:=zH (BkA.new w zTok 55)
 obtain⟨kd,n,a,st⟩:=t
 simp only at hs
 subst hs
 have hne:((kd:Int) != (kd:Int))=false:=by simp
 simp only[hd] at H
 clear h b0
 go_enter Tryz.func55,Tryz.ntmps55
 go_wp2_with fail
 refine H.out.mono ?_
 rintro e V ⟨rfl,hb⟩
 have BV:=zH hb
 have b1:Below V.heap.size V (V.alloc (.cells #[.int .i64 (kd:Int),.int .i64 (n:Int),.int .i64 (a:Int),.string (bsB st)] 55)):=ext_alloc (ext_refl _) _
 have q1:=BkA.new V [.int .i64 (kd:Int),.int .i64 (n:Int),.int .i64 (a:Int),.string (bsB st)] 55
 have NV:=zH ((N.out.on hb).on b1)
 obtain⟨U,hU⟩:∃ U,U=V.alloc (.cells #[.int .i64 (kd:Int),.int .i64 (n:Int),.int .i64 (a:Int),.string (bsB st)] 55):=⟨_,rfl⟩
 have HPU:=(HP.out.below hb).below b1
 rw[← hU] at b1 q1 HPU NV
 have hgV:w.heap.size<V.heap.size:=Nat.lt_of_lt_of_le N.out.lt hb.size
 have B1:=zH b1
 have HU:=zH hU
 obtain⟨g,off,c,h1,h2,h3,h4⟩:=HPU.tail_
 have H4:=zH h4
 have fz:=HPU.fz
 have lpU:=HPU.lt
 obtain⟨d0,d1,d2,d3⟩:=q1.c4_ rfl
 obtain⟨c0,c1,c2,c3⟩:=NV.out.c4_ rfl
 have fzr:=NV.out.fz
 have ltr:=NV.out.lt
 have ltq:=q1.lt
 obtain⟨m,hm⟩:∃ m,m=r.length+1:=⟨_,rfl⟩
 have hc1:¬ c=1:=by omega
 rw[← hm] at h1 h2 H4
 have hpV:¬ V.heap.size=p:=by have:=HP.out.lt;have:=hb.size;omega
 have hpw:¬ w.heap.size=p:=by omega
 have hpV':¬ p=V.heap.size:=fun e=>hpV e.symm
 have hpw':¬ p=w.heap.size:=fun e=>hpw e.symm
 have hwV:¬ w.heap.size=V.heap.size:=by omega
 have hwV':¬ V.heap.size=w.heap.size:=by omega
 clear hb b1 q1 HPU h4 hm hU H
 go_upto_region 4 with fail
 rw[← HU.out]
 clear HU
 go_wp2_with fail
 have o:=out4 (U.setCell ⟨p,0,none⟩ (.slice (some ⟨g,off+4,none⟩) m (c - 1))) w.heap.size (.int .i64 (kd:Int)) (.int .i64 (n:Int)) (.int .i64 (a:Int)) (.string (bsB st))
 refine bodyPost_ret (v:=.agg #[.int .i64 (kd:Int),.int .i64 (n:Int),.int .i64 (a:Int),.string (bsB st)]) (by simp[results,Tryz.results55,go_sem,c0,c1,c2,c3,hpw,hpw']) rfl ⟨rfl,H4.out.outs o (fun j hj=>by omega),Out.down ?_⟩
 have h1:=Out.of (S:=fun j=>j=p∨w.heap.size≤j) B0.out
 have h2:=Out.of (S:=fun j=>j=p∨w.heap.size≤j) BV.out
 have h3:=Out.of (S:=fun j=>j=p∨w.heap.size≤j) B1.out
 exact ((h1.trans (h2.trans h3)).trans (Out.set ⟨p,0,none⟩ _ (.inl rfl))).trans (o.mono fun j _ hj=>.inr (by omega))
end Go.Proofs.YtapbglhjamddbaaGreatDoor
