/- A part of the proof. -/
import Derived.Test.YtapbglhjamddbaaGreatDoorKb
import Derived.Test.YtapbglhjamddbaaGreatDoorPkJ
import Derived.WalkLawsBesides
import Derived.Test.YtapbglhjamddbaaGreatDoorKd
import Derived.Defers
import Derived.Recover
import Derived.Deep.RegionLaw
import Derived.Deep.RegionHeld3
import Derived.Test.YtapbglhjamddbaaGreatDoorHd
set_option linter.unusedSimpArgs false
set_option linter.unusedVariables false
namespace Go.Proofs.YtapbglhjamddbaaGreatDoor
open Go.RowKit Go.Deep
set_option maxRecDepth 100000
theorem cell_set_self {W:World} {p:Addr} {u u':Value} (h:W.cell? p=some u):(W.setCell p u').cell? p=some u':=by simp[go_sem,h]
def endTok (z:Nat):Tok:=⟨0,0,z,[]⟩
structure PSt (w:World) (p z:Nat) (l:List Tok) (k:Nat):Prop where
 rest:∃ g off c,w.cell? ⟨p,0,none⟩=some (.slice (some ⟨g,off,none⟩) (l.length+1) c)∧l.length+1≤c∧c≤9223372036854775807∧g<p∧∀ (j:Nat) (t:Tok),(l++[endTok z])[j]?=some t→TokC w g (off+j*4) t
 op:w.cell? ⟨p,1,none⟩=some (.int .i64 (k:Int))
 fz:∀ o,w.frozen? ⟨p,o,none⟩=false
 lt:p<w.heap.size
 tk:Toks z l
 zs:z≤2000
 ks:k≤60
theorem TokC.keep {w w':World} {g o:Nat} {t:Tok} (h:TokC w g o t) (hb:w'.heap[g]?=w.heap[g]?):TokC w' g o t :=
 ⟨(World.cell?_of_block (w:=w) hb).trans h.c0,(World.cell?_of_block (w:=w) hb).trans h.c1,(World.cell?_of_block (w:=w) hb).trans h.c2,(World.cell?_of_block (w:=w) hb).trans h.c3⟩
theorem PSt.outs {S:Nat→Prop} {w w':World} {p z k:Nat} {l:List Tok} (h:PSt w p z l k) (o:Out S w w') (hS:∀ j,S j→p<j):PSt w' p z l k:=by
 obtain⟨g,off,c,h1,h2,h3,h4,h6⟩:=h.rest
 have hp:¬ S p:=fun e=>by have:=hS p e;omega
 have hb:=o.block p h.lt hp
 refine⟨⟨g,off,c,(World.cell?_of_block (w:=w) hb).trans h1,h2,h3,h4,fun j t ht=>(h6 j t ht).keep (o.block g (Nat.lt_trans h4 h.lt) fun e=>by have:=hS g e;omega)⟩,(World.cell?_of_block (w:=w) hb).trans h.op,fun i=>?_,Nat.lt_of_lt_of_le h.lt o.size,h.tk,h.zs,h.ks⟩
 have h1:=h.fz i
 unfold World.frozen? at h1 ⊢
 rw[hb]
 exact h1
theorem PSt.below {w w':World} {p z k:Nat} {l:List Tok} (h:PSt w p z l k) (hb:Below w.heap.size w w'):PSt w' p z l k:=h.outs (Out.of (S:=fun _=>False) hb) fun _ h=>h.elim
theorem PSt.set_op {w:World} {p z k:Nat} {l:List Tok} (h:PSt w p z l k) {m:Nat} (hm:m≤60):PSt (w.setCell ⟨p,1,none⟩ (.int .i64 (m:Int))) p z l m:=by
 obtain⟨g,off,c,h1,h2,h3,h4,h6⟩:=h.rest
 have o:=Out.set (S:=fun k=>k=p) (a:=w) ⟨p,1,none⟩ (.int .i64 (m:Int)) rfl
 refine⟨⟨g,off,c,?_,h2,h3,h4,fun j t ht=>(h6 j t ht).keep (o.block g (Nat.lt_trans h4 h.lt) (by omega))⟩,cell_set_self h.op,fun i=>by rw[World.frozen?_setCell];exact h.fz i,Nat.lt_of_lt_of_le h.lt o.size,h.tk,h.zs,hm⟩
 rw[World.cell?_setCell_other _ _ _ _ (by simp)]
 exact h1
theorem Out.up {p N:Nat} {V X:World} (h:Out (fun j=>j=p) V X):Out (fun j=>j=p∨N≤j) V X:=h.mono fun _ _ e=>.inl e
theorem Out.down {p:Nat} {w X:World} (h:Out (fun j=>j=p∨w.heap.size≤j) w X):Out (fun j=>j=p) w X:=h.mono fun _ hk e=>e.resolve_right (by omega)
def hd (z:Nat):List Tok→Tok
 | []=>endTok z
 | t :: _=>t
theorem hd_get (z:Nat) (l:List Tok):(l++[endTok z])[0]?=some (hd z l):=by cases l <;> rfl
theorem hAt_hd (z:Nat) (l:List Tok):hAt z l=(hd z l).at_:=by cases l <;> rfl
theorem sees_hd (s:Bs) (z:Nat) (l:List Tok):hSees s l=(((hd z l).kd == 1 ||(hd z l).kd == 6) && (hd z l).s == s):=by cases l <;> rfl
set_option maxHeartbeats 2000000 in
theorem look_any (p z k:Nat) (l:List Tok) (w:World) (h:PSt w p z l k):Calls Tryz.prog 25 #[.pointer (some ⟨p,0,none⟩)] w fun e w'=>e=.returned (Value.agg #[.int .i64 ((hd z l).kd:Int),.int .i64 ((hd z l).n:Int),.int .i64 ((hd z l).at_:Int),.string (bsB (hd z l).s)])∧Below w.heap.size w w':=by
 obtain⟨g,off,c,h1,h2,h3,h4,h6⟩:=h.rest
 obtain⟨⟨kd,n,a,s⟩,ht⟩:∃ t,t=hd z l:=⟨_,rfl⟩
 obtain⟨f0,f1,f2,f3⟩:=h6 0 _ (hd_get z l)
 rw[← ht] at f0 f1 f2 f3 ⊢
 simp only[Nat.zero_mul,Nat.add_zero] at f0 f1 f2 f3
 have lp:=h.lt
 have lg:g<w.heap.size:=Nat.lt_trans h4 lp
 obtain⟨m,hm⟩:∃ m,m=l.length:=⟨_,rfl⟩
 rw[← hm] at h1 h2
 have hm0:(0:Int)<((m+1:Nat):Int):=by omega
 clear h h6 ht hm
 go_enter Tryz.func25,Tryz.ntmps25
 go_wp2_with fail
 refine bodyPost_ret (v:=.agg #[.int .i64 (kd:Int),.int .i64 (n:Int),.int .i64 (a:Int),.string (bsB s)]) (by simp[results,Tryz.results25,go_sem]) rfl ⟨rfl,?_⟩
 (repeat (first | exact ext_refl _ | assumption |(refine ext_alloc ?_ _) |(refine ext_drewN ?_ _) | refine ext_drew ?_ |(refine ext_set (by first |(simp;done) |(simp;omega)) _ ?_) |(refine ext_trans ?_ (by assumption))))
abbrev faultE (er a:Nat):Ending:=.panicked [{ v:=.iface 51 (.agg #[.int .i64 (er:Int),.int .i64 (a:Int)]),recovered:=false }]
structure BkA (W:World) (g:Nat) (cs:List Value):Prop where
 lt:g<W.heap.size
 c:∀ (k:Nat) u,cs[k]?=some u→W.cell? ⟨g,k,none⟩=some u
 fz:∀ o,W.frozen? ⟨g,o,none⟩=false
theorem BkA.c3_ {W:World} {g:Nat} {cs:List Value} {v0 v1 v2:Value} (h:BkA W g cs) (e:cs=[v0,v1,v2]):W.cell? ⟨g,0,none⟩=some v0∧W.cell? ⟨g,1,none⟩=some v1∧W.cell? ⟨g,2,none⟩=some v2:=by subst e;exact⟨h.c 0 _ rfl,h.c 1 _ rfl,h.c 2 _ rfl⟩
theorem BkA.c4_ {W:World} {g:Nat} {cs:List Value} {v0 v1 v2 v3:Value} (h:BkA W g cs) (e:cs=[v0,v1,v2,v3]):W.cell? ⟨g,0,none⟩=some v0∧W.cell? ⟨g,1,none⟩=some v1∧W.cell? ⟨g,2,none⟩=some v2∧W.cell? ⟨g,3,none⟩=some v3:=by subst e;exact⟨h.c 0 _ rfl,h.c 1 _ rfl,h.c 2 _ rfl,h.c 3 _ rfl⟩
theorem BkA.c5_ {W:World} {g:Nat} {cs:List Value} {v0 v1 v2 v3 v4:Value} (h:BkA W g cs) (e:cs=[v0,v1,v2,v3,v4]):W.cell? ⟨g,0,none⟩=some v0∧W.cell? ⟨g,1,none⟩=some v1∧W.cell? ⟨g,2,none⟩=some v2∧W.cell? ⟨g,3,none⟩=some v3∧W.cell? ⟨g,4,none⟩=some v4:=by subst e;exact⟨h.c 0 _ rfl,h.c 1 _ rfl,h.c 2 _ rfl,h.c 3 _ rfl,h.c 4 _ rfl⟩
theorem BkA.c9_ {W:World} {g:Nat} {cs:List Value} {v0 v1 v2 v3 v4 v5 v6 v7 v8:Value} (h:BkA W g cs) (e:cs=[v0,v1,v2,v3,v4,v5,v6,v7,v8]):W.cell? ⟨g,0,none⟩=some v0∧W.cell? ⟨g,1,none⟩=some v1∧W.cell? ⟨g,2,none⟩=some v2∧W.cell? ⟨g,3,none⟩=some v3∧W.cell? ⟨g,4,none⟩=some v4∧W.cell? ⟨g,5,none⟩=some v5∧W.cell? ⟨g,6,none⟩=some v6∧W.cell? ⟨g,7,none⟩=some v7∧W.cell? ⟨g,8,none⟩=some v8:=by subst e;exact⟨h.c 0 _ rfl,h.c 1 _ rfl,h.c 2 _ rfl,h.c 3 _ rfl,h.c 4 _ rfl,h.c 5 _ rfl,h.c 6 _ rfl,h.c 7 _ rfl,h.c 8 _ rfl⟩
theorem BkA.c10_ {W:World} {g:Nat} {cs:List Value} {v0 v1 v2 v3 v4 v5 v6 v7 v8 v9:Value} (h:BkA W g cs) (e:cs=[v0,v1,v2,v3,v4,v5,v6,v7,v8,v9]):W.cell? ⟨g,0,none⟩=some v0∧W.cell? ⟨g,1,none⟩=some v1∧W.cell? ⟨g,2,none⟩=some v2∧W.cell? ⟨g,3,none⟩=some v3∧W.cell? ⟨g,4,none⟩=some v4∧W.cell? ⟨g,5,none⟩=some v5∧W.cell? ⟨g,6,none⟩=some v6∧W.cell? ⟨g,7,none⟩=some v7∧W.cell? ⟨g,8,none⟩=some v8∧W.cell? ⟨g,9,none⟩=some v9:=by subst e;exact⟨h.c 0 _ rfl,h.c 1 _ rfl,h.c 2 _ rfl,h.c 3 _ rfl,h.c 4 _ rfl,h.c 5 _ rfl,h.c 6 _ rfl,h.c 7 _ rfl,h.c 8 _ rfl,h.c 9 _ rfl⟩
theorem BkA.on {W W':World} {g:Nat} {cs:List Value} (h:BkA W g cs) (hb:Below W.heap.size W W'):BkA W' g cs:=by
 refine⟨Nat.lt_of_lt_of_le h.lt hb.size,fun k u hu=>(hb.cell (p:=⟨g,k,none⟩) h.lt).trans (h.c k u hu),fun o=>?_⟩
 have h1:=h.fz o
 have h2:=hb.block g h.lt
 unfold World.frozen? at h1 ⊢
 rw[h2]
 exact h1
theorem BkA.outs {S:Nat→Prop} {W W':World} {g:Nat} {cs:List Value} (h:BkA W g cs) (hb:Out S W W') (hS:¬ S g):BkA W' g cs:=by
 refine⟨Nat.lt_of_lt_of_le h.lt hb.size,fun k u hu=>(World.cell?_of_block (w:=W) (hb.block g h.lt hS)).trans (h.c k u hu),fun o=>?_⟩
 have h1:=h.fz o
 have h2:=hb.block g h.lt hS
 unfold World.frozen? at h1 ⊢
 rw[h2]
 exact h1
theorem BkA.new (w:World) (cs:List Value) (T:TypeId):BkA (w.alloc (.cells cs.toArray T)) w.heap.size cs :=
 ⟨by simp,fun k u hu=>by rw[Lib.cell_of_heap (heap_alloc_new w _)];simpa using hu,fun o=>Lib.frozen_of_heap (heap_alloc_new w _) o⟩
theorem Tryz.tokN (k n a:Int) (s:ByteArray) (w:World):(Instr.field 55 (.agg #[.int .i64 k,.int .i64 n,.int .i64 a,.string s]) 1).run Tryz.prog w=.ok (.int .i64 n) w:=by kernel_rfl
theorem Tryz.tokKind (k n a:Int) (s:ByteArray) (w:World):(Instr.field 55 (.agg #[.int .i64 k,.int .i64 n,.int .i64 a,.string s]) 0).run Tryz.prog w=.ok (.int .i64 k) w:=by kernel_rfl
theorem Tryz.tokAt (k n a:Int) (s:ByteArray) (w:World):(Instr.field 55 (.agg #[.int .i64 k,.int .i64 n,.int .i64 a,.string s]) 2).run Tryz.prog w=.ok (.int .i64 a) w:=by kernel_rfl
theorem Tryz.tokS (k n a:Int) (s:ByteArray) (w:World):(Instr.field 55 (.agg #[.int .i64 k,.int .i64 n,.int .i64 a,.string s]) 3).run Tryz.prog w=.ok (.string s) w:=by kernel_rfl
set_option maxHeartbeats 2000000 in
theorem wrong_any (p z k:Nat) (l:List Tok) (er:Nat) (w:World) (h:PSt w p z l k):Calls Tryz.prog 26 #[.pointer (some ⟨p,0,none⟩),.int .i64 (er:Int)] w fun e w'=>e=.returned (.agg #[.int .i64 (er:Int),.int .i64 (hAt z l:Int)])∧Below w.heap.size w w':=by
 rw[hAt_hd]
 have b0:Below w.heap.size w (w.alloc (.cells #[.int .i64 0,.int .i64 0] 51)):=ext_alloc (ext_refl _) _
 have H:=zH (look_any p z k l _ (h.below b0))
 have B0:=zH b0
 have N:=zH (BkA.new w [.int .i64 0,.int .i64 0] 51)
 obtain⟨⟨kd,n,a,s⟩,ht⟩:∃ t,t=hd z l:=⟨_,rfl⟩
 rw[← ht] at H ⊢
 clear ht h b0
 go_enter Tryz.func26,Tryz.ntmps26
 go_wp2_with fail
 refine H.out.mono ?_
 rintro e V ⟨rfl,hb⟩
 have hB:=N.out.on hb
 have lt:=hB.lt
 have c0:=hB.c 0 _ rfl
 have c1:=hB.c 1 _ rfl
 have fz:=hB.fz
 have BV:=zH (B0.out.trans (hb.mono B0.out.size))
 have hfa:=fun w=>Tryz.tokAt kd n a (bsB s) w
 clear hB hb
 go_wp2_with fail
 refine bodyPost_ret (v:=.agg #[.int .i64 (er:Int),.int .i64 (a:Int)]) (by simp[results,Tryz.results26,go_sem,c0,c1]) rfl ⟨rfl,?_⟩
 have hb:=BV.out
 have hl:w.heap.size≤w.heap.size:=Nat.le_refl _
 (repeat (first | exact ext_refl _ | assumption |(refine ext_alloc ?_ _) |(refine ext_drewN ?_ _) | refine ext_drew ?_ |(refine ext_set (by first |(simp;done) |(simp;omega)) _ ?_) |(refine ext_trans ?_ (by assumption))))
set_option maxHeartbeats 2000000 in
theorem sees_any (p z k:Nat) (l:List Tok) (s:Bs) (w:World) (h:PSt w p z l k):Calls Tryz.prog 54 #[.pointer (some ⟨p,0,none⟩),.string (bsB s)] w fun e w'=>e=.returned (.bool (hSees s l))∧Below w.heap.size w w':=by
 rw[sees_hd s z]
 have H:=zH (look_any p z k l w h)
 obtain⟨⟨kd,n,a,t⟩,ht⟩:∃ t,t=hd z l:=⟨_,rfl⟩
 rw[← ht] at H ⊢
 clear ht h
 by_cases h1:kd=1
 ·subst h1
  go_enter Tryz.func54,Tryz.ntmps54
  go_wp2_with fail
  refine H.out.mono ?_
  rintro e V ⟨rfl,hb⟩
  go_wp2_with fail
  refine bodyPost_ret (v:=.bool (t == s)) (by simp[results,Tryz.results54,go_sem]) rfl ⟨by simp,?_⟩
  (repeat (first | exact ext_refl _ | assumption |(refine ext_alloc ?_ _) |(refine ext_drewN ?_ _) | refine ext_drew ?_ |(refine ext_set (by first |(simp;done) |(simp;omega)) _ ?_) |(refine ext_trans ?_ (by assumption))))
 ·by_cases h6:kd=6
  ·subst h6
   go_enter Tryz.func54,Tryz.ntmps54
   go_wp2_with fail
   refine H.out.mono ?_
   rintro e V ⟨rfl,hb⟩
   go_wp2_with fail
   refine bodyPost_ret (v:=.bool (t == s)) (by simp[results,Tryz.results54,go_sem]) rfl ⟨by simp,?_⟩
   (repeat (first | exact ext_refl _ | assumption |(refine ext_alloc ?_ _) |(refine ext_drewN ?_ _) | refine ext_drew ?_ |(refine ext_set (by first |(simp;done) |(simp;omega)) _ ?_) |(refine ext_trans ?_ (by assumption))))
  ·have i1:¬ (kd:Int)=1:=by omega
   have i6:¬ (kd:Int)=6:=by omega
   go_enter Tryz.func54,Tryz.ntmps54
   go_wp2_with fail
   refine H.out.mono ?_
   rintro e V ⟨rfl,hb⟩
   go_wp2_with fail
   refine bodyPost_ret (v:=.bool false) (by simp[results,Tryz.results54,go_sem]) rfl ⟨by simp[h1,h6],?_⟩
   (repeat (first | exact ext_refl _ | assumption |(refine ext_alloc ?_ _) |(refine ext_drewN ?_ _) | refine ext_drew ?_ |(refine ext_set (by first |(simp;done) |(simp;omega)) _ ?_) |(refine ext_trans ?_ (by assumption))))
theorem PSt.tail_ {w:World} {p z k:Nat} {t:Tok} {r:List Tok} (h:PSt w p z (t :: r) k):∃ g off c,w.cell? ⟨p,0,none⟩=some (.slice (some ⟨g,off,none⟩) (r.length+1+1) c)∧r.length+1+1≤c∧c≤9223372036854775807∧PSt (w.setCell ⟨p,0,none⟩ (.slice (some ⟨g,off+4,none⟩) (r.length+1) (c - 1))) p z r k:=by
 obtain⟨g,off,c,h1,h2,h3,h4,h6⟩:=h.rest
 have o:=Out.set (S:=fun k=>k=p) (a:=w) ⟨p,0,none⟩ (.slice (some ⟨g,off+4,none⟩) (r.length+1) (c - 1)) rfl
 simp only[List.length_cons] at h1 h2
 refine⟨g,off,c,h1,h2,h3,⟨g,off+4,c - 1,cell_set_self h1,by omega,by omega,h4,fun j t ht=>?_⟩,?_,fun i=>by rw[World.frozen?_setCell];exact h.fz i,Nat.lt_of_lt_of_le h.lt o.size,h.tk.tail,h.zs,h.ks⟩
 ·have:=(h6 (j+1) t (by simpa using ht)).keep (o.block g (Nat.lt_trans h4 h.lt) (by omega))
  rw[show off+(j+1)*4=off+4+j*4 by omega] at this
  exact this
 ·rw[World.cell?_setCell_other _ _ _ _ (by simp)]
  exact h.op
set_option maxHeartbeats 2000000 in
theorem take_yes (p z k:Nat) (t:Tok) (r:List Tok) (s:Bs) (w:World) (h:PSt w p z (t :: r) k) (hs:hSees s (t :: r)=true):Calls Tryz.prog 21 #[.pointer (some ⟨p,0,none⟩),.string (bsB s)] w fun e w'=>e=.returned (.bool true)∧PSt w' p z r k∧Out (fun j=>j=p) w w':=by
 have H:=zH (sees_any p z k (t :: r) s w h)
 rw[hs] at H
 have HP:=zH h
 clear h hs
 go_enter Tryz.func21,Tryz.ntmps21
 go_wp2_with fail
 refine H.out.mono ?_
 rintro e V ⟨rfl,hb⟩
 have HV:=HP.out.below hb
 have O:=zH (Out.of (S:=fun j=>j=p) hb)
 obtain⟨g,off,c,h1,h2,h3,h4⟩:=HV.tail_
 have fz:=HV.fz
 have lp:=HV.lt
 have H4:=zH h4
 obtain⟨m,hm⟩:∃ m,m=r.length+1:=⟨_,rfl⟩
 have hc1:¬ c=1:=by omega
 rw[← hm] at h1 h2 H4
 clear h4 HV hb HP hm
 go_wp2_with fail
 exact bodyPost_ret (v:=.bool true) (by simp[results,Tryz.results21,go_sem]) rfl ⟨rfl,H4.out,O.out.trans (Out.set (S:=fun j=>j=p) ⟨p,0,none⟩ _ rfl)⟩
set_option maxHeartbeats 2000000 in
theorem take_no (p z k:Nat) (l:List Tok) (s:Bs) (w:World) (h:PSt w p z l k) (hs:hSees s l=false):Calls Tryz.prog 21 #[.pointer (some ⟨p,0,none⟩),.string (bsB s)] w fun e w'=>e=.returned (.bool false)∧Below w.heap.size w w':=by
 have H:=zH (sees_any p z k l s w h)
 rw[hs] at H
 clear h hs
 go_enter Tryz.func21,Tryz.ntmps21
 go_wp2_with fail
 refine H.out.mono ?_
 rintro e V ⟨rfl,hb⟩
 have O:=zH hb
 clear hb
 go_wp2_with fail
 exact bodyPost_ret (v:=.bool false) (by simp[results,Tryz.results21,go_sem]) rfl ⟨rfl,O.out⟩
abbrev zTok:List Value:=[.int .i64 0,.int .i64 0,.int .i64 0,.string ⟨#[]⟩]
set_option maxHeartbeats 2000000 in
theorem need_yes (p z k:Nat) (t:Tok) (r:List Tok) (s:Bs) (w:World) (h:PSt w p z (t :: r) k) (hs:hSees s (t :: r)=true):Calls Tryz.prog 22 #[.pointer (some ⟨p,0,none⟩),.string (bsB s)] w fun e w'=>e=.returned (Value.agg #[.int .i64 (t.kd:Int),.int .i64 (t.n:Int),.int .i64 (t.at_:Int),.string (bsB t.s)])∧PSt w' p z r k∧Out (fun j=>j=p) w w':=by
 have b0:Below w.heap.size w (w.alloc (.cells zTok.toArray 55)):=ext_alloc (ext_refl _) _
 have lp:=h.lt
 have HP:=zH (h.below b0)
 have H:=zH (look_any p z k (t :: r) _ HP.out)
 have HS:=zH hs
 have B0:=zH b0
 have N:=zH (BkA.new w zTok 55)
 obtain⟨kd,n,a,st⟩:=t
 clear h b0 hs
 go_enter Tryz.func22,Tryz.ntmps22
 go_wp2_with fail
 refine H.out.mono ?_
 rintro e V ⟨rfl,hb⟩
 have BV:=zH hb
 have HPV:=zH (HP.out.below hb)
 have NV:=zH (N.out.on hb)
 have b1:Below V.heap.size V (V.alloc (.cells #[.int .i64 (kd:Int),.int .i64 (n:Int),.int .i64 (a:Int),.string (bsB st)] 55)):=ext_alloc (ext_refl _) _
 have N1:=zH (BkA.new V [.int .i64 (kd:Int),.int .i64 (n:Int),.int .i64 (a:Int),.string (bsB st)] 55)
 have T:=zH (take_yes p z k ⟨kd,n,a,st⟩ r s _ (HPV.out.below b1) HS.out)
 have B1:=zH b1
 clear hb b1
 go_wp2_with fail
 refine T.out.mono ?_
 rintro e X ⟨rfl,hP,ho⟩
 have HX:=zH hP
 have HO:=zH ho
 have hg:w.heap.size<V.heap.size:=NV.out.lt
 have q:=(NV.out.on B1.out).outs ho (by omega)
 obtain⟨c0,c1,c2,c3⟩:=q.c4_ rfl
 have fz:=q.fz
 have q1:=N1.out.outs ho (by omega)
 obtain⟨d0,d1,d2,d3⟩:=q1.c4_ rfl
 clear q q1 hP ho
 go_wp2_with fail
 refine bodyPost_ret (v:=.agg #[.int .i64 (kd:Int),.int .i64 (n:Int),.int .i64 (a:Int),.string (bsB st)]) (by simp[results,Tryz.results22,go_sem,c0,c1,c2,c3]) rfl ⟨rfl,?_,?_⟩
 ·exact HX.out.outs (S:=fun j=>False∨w.heap.size≤j) (by (repeat (first | assumption | exact Out.refl _ _ |(refine Out.trans ?_ (Out.set _ _ (by first | exact Or.inl rfl | exact Or.inr (Nat.le_refl _) |(refine Or.inr ?_;omega) | omega))) |(refine Out.trans ?_ (Out.alloc _ _)) |(refine Out.trans ?_ (Out.drew _))))) (fun j hj=>by have:w.heap.size≤j:=hj.resolve_left id;omega)
 ·have h1:=Out.of (S:=fun j=>j=p∨w.heap.size≤j) B0.out
  have h2:=Out.of (S:=fun j=>j=p∨w.heap.size≤j) BV.out
  have h3:=Out.of (S:=fun j=>j=p∨w.heap.size≤j) B1.out
  have h4:=h1.trans (h2.trans (h3.trans HO.out.up))
  refine Out.down ?_
  (repeat (first | assumption | exact Out.refl _ _ |(refine Out.trans ?_ (Out.set _ _ (by first | exact Or.inl rfl | exact Or.inr (Nat.le_refl _) |(refine Or.inr ?_;omega) | omega))) |(refine Out.trans ?_ (Out.alloc _ _)) |(refine Out.trans ?_ (Out.drew _))))
structure PE (w:World) (p:Nat):Prop where
 op:∃ m:Int,w.cell? ⟨p,1,none⟩=some (.int .i64 m)
 fz:∀ o,w.frozen? ⟨p,o,none⟩=false
 lt:p<w.heap.size
theorem PSt.pe {w:World} {p z k:Nat} {l:List Tok} (h:PSt w p z l k):PE w p:=⟨⟨_,h.op⟩,h.fz,h.lt⟩
def Ans {α:Type} (R:Nat→World→α→Value→Prop) (p z k:Nat) (res:PR α) (w:World) (e:Ending) (w':World):Prop :=
 match res with
 | .err er a=>e=faultE er a∧PE w' p∧Out (fun j=>j=p) w w'
 | .ok x r=>(∃ v,e=.returned v∧R w.heap.size w' x v)∧PSt w' p z r k∧Out (fun j=>j=p) w w'
def ExV (b:Nat) (w:World) (x:Ex) (v:Value):Prop:=∃ r:RawE,v=(Value.agg #[.int .i64 r.op,.int .i64 r.v.k,.int .i64 r.v.n,.string r.v.s,.int .i64 r.rel,.int .i64 r.col,.int .i64 r.n,.string r.s,.slice r.q r.len r.c])∧ExMP w (fun g=>b≤g) x r.cells
abbrev zExpr:List Value:=[.int .i64 0,.int .i64 0,.int .i64 0,.string ⟨#[]⟩,.int .i64 0,.int .i64 0,.int .i64 0,.string ⟨#[]⟩,.slice none 0 0]
set_option maxHeartbeats 2000000 in
theorem begin_yes (p z k:Nat) (l:List Tok) (w:World) (h:PSt w p z l k) (hk:k<60):Calls Tryz.prog 75 #[.pointer (some ⟨p,0,none⟩)] w fun e w'=>e=.returned (.tuple #[])∧PSt w' p z l (k+1)∧Out (fun j=>j=p) w w':=by
 have H:=zH (h.set_op (m:=k+1) (by omega))
 have c1:=h.op
 have fz:=h.fz
 have lp:=h.lt
 have hb:((k:Int) == 60)=false:=by rw[beq_eq_false_iff_ne];omega
 clear h
 go_enter Tryz.func75,Tryz.ntmps75
 go_wp2_with fail
 exact bodyPost_end (results_none (by rfl) _ _ _) rfl ⟨rfl,H.out,Out.set (S:=fun j=>j=p) ⟨p,1,none⟩ _ rfl⟩
set_option maxHeartbeats 2000000 in
theorem begin_no (p z:Nat) (l:List Tok) (w:World) (h:PSt w p z l 60):Calls Tryz.prog 75 #[.pointer (some ⟨p,0,none⟩)] w fun e w'=>e=faultE 5 (hAt z l)∧Below w.heap.size w w':=by
 have H:=zH (wrong_any p z 60 l 5 w h)
 have c1:=h.op
 have lp:=h.lt
 have fz:=h.fz
 clear h
 go_enter Tryz.func75,Tryz.ntmps75
 go_wp2_with fail
 refine H.out.mono ?_
 rintro e V ⟨rfl,hb⟩
 go_wp2_with fail
 exact⟨rfl,rfl,hb⟩
theorem end_yes (p z k:Nat) (l:List Tok) (u:FrameMode) (w:World) (h:PSt w p z l (k+1)):CallsD Tryz.prog 76 #[.pointer (some ⟨p,0,none⟩)] u w fun e u' w'=>u'=u∧(e=.returned (.tuple #[])∧PSt w' p z l k∧Out (fun j=>j=p) w w'):=by
 have H:=zH (h.set_op (m:=k) (by have:=h.ks;omega))
 have c1:=h.op
 have fz:=h.fz
 have lp:=h.lt
 have hw:wrap64 (k:Int)=(k:Int):=by have:=h.ks;unfold wrap64;omega
 clear h
 go_enter_d Tryz.func76,Tryz.ntmps76
 go_wp2_with fail
 exact bodyPost_end (results_none (by rfl) _ _ _) rfl ⟨rfl,H.out,Out.set (S:=fun j=>j=p) ⟨p,1,none⟩ _ rfl⟩
set_option maxHeartbeats 2000000 in
theorem end_err (p:Nat) (u:FrameMode) (w:World) (h:PE w p):CallsD Tryz.prog 76 #[.pointer (some ⟨p,0,none⟩)] u w fun e u' w'=>u'=u∧(e=.returned (.tuple #[])∧PE w' p∧Out (fun j=>j=p) w w'):=by
 obtain⟨m,hm⟩:=h.op
 have fz:=h.fz
 have lp:=h.lt
 clear h
 go_enter_d Tryz.func76,Tryz.ntmps76
 go_wp2_with fail
 refine bodyPost_end (results_none (by rfl) _ _ _) rfl ⟨rfl,⟨⟨_,cell_set_self hm⟩,fun i=>by rw[World.frozen?_setCell];exact fz i,?_⟩,Out.set (S:=fun j=>j=p) ⟨p,1,none⟩ _ rfl⟩
 have:=(Out.set (S:=fun j=>j=p) (a:=w) ⟨p,1,none⟩ (.int .i64 (wrap64 (m - 1))) rfl).size
 omega
set_option maxHeartbeats 2000000 in
theorem apply_any (op:Int) (q:Option Addr) (n c:Nat) (w:World):Calls Tryz.prog 89 #[.int .i64 op,.slice q n c] w fun e w'=>e=.returned (.agg (exCells op zeroVal 0 0 0 ⟨#[]⟩ q n c).toArray)∧Below w.heap.size w w':=by
 go_enter Tryz.func89,Tryz.ntmps89
 go_wp2_with fail
 refine bodyPost_ret (v:=.agg (exCells op zeroVal 0 0 0 ⟨#[]⟩ q n c).toArray) (by simp[results,Tryz.results89,go_sem,zeroVal]) rfl ⟨rfl,?_⟩
 (repeat (first | exact ext_refl _ | assumption |(refine ext_alloc ?_ _) |(refine ext_drewN ?_ _) | refine ext_drew ?_ |(refine ext_set (by first |(simp;done) |(simp;omega)) _ ?_) |(refine ext_trans ?_ (by assumption))))
set_option maxHeartbeats 2000000 in
theorem constant_any (v:Val) (w:World):Calls Tryz.prog 151 #[.agg #[.int .i64 v.k,.int .i64 v.n,.string v.s]] w fun e w'=>e=.returned (.agg (exCells 1 v 0 0 0 ⟨#[]⟩ none 0 0).toArray)∧Below w.heap.size w w':=by
 obtain⟨vk,vn,vs⟩:=v
 go_enter Tryz.func151,Tryz.ntmps151
 go_wp2_with fail
 refine bodyPost_ret (v:=.agg (exCells 1 ⟨vk,vn,vs⟩ 0 0 0 ⟨#[]⟩ none 0 0).toArray) (by simp[results,Tryz.results151,go_sem]) rfl ⟨rfl,?_⟩
 (repeat (first | exact ext_refl _ | assumption |(refine ext_alloc ?_ _) |(refine ext_drewN ?_ _) | refine ext_drew ?_ |(refine ext_set (by first |(simp;done) |(simp;omega)) _ ?_) |(refine ext_trans ?_ (by assumption))))
set_option maxHeartbeats 2000000 in
theorem text_any (t:Tok) (w:World):Calls Tryz.prog 152 #[(Value.agg #[.int .i64 (t.kd:Int),.int .i64 (t.n:Int),.int .i64 (t.at_:Int),.string (bsB t.s)])] w fun e w'=>e=.returned (.agg #[.int .i64 3,.int .i64 0,.string (bsB t.s)])∧Below w.heap.size w w':=by
 obtain⟨kd,n,a,s⟩:=t
 go_enter Tryz.func152,Tryz.ntmps152
 go_wp2_with fail
 refine bodyPost_ret (v:=.agg #[.int .i64 3,.int .i64 0,.string (bsB s)]) (by simp[results,Tryz.results152,go_sem]) rfl ⟨rfl,?_⟩
 (repeat (first | exact ext_refl _ | assumption |(refine ext_alloc ?_ _) |(refine ext_drewN ?_ _) | refine ext_drew ?_ |(refine ext_set (by first |(simp;done) |(simp;omega)) _ ?_) |(refine ext_trans ?_ (by assumption))))
structure OpsM (w:World) (p g:Nat) (ops:Ops):Prop where
 lt:g<w.heap.size
 ne:g≠p
 c:∀ (j:Nat) (s:Bs) (op:Int),ops[j]?=some (s,op)→w.cell? ⟨g,j*2,none⟩=some (.string (bsB s))∧w.cell? ⟨g,j*2+1,none⟩=some (.int .i64 op)
theorem OpsM.outs {w w':World} {p g:Nat} {ops:Ops} (h:OpsM w p g ops) (o:Out (fun j=>j=p) w w'):OpsM w' p g ops :=
 ⟨Nat.lt_of_lt_of_le h.lt o.size,h.ne,fun j s op e=>⟨(World.cell?_of_block (w:=w) (o.block g h.lt h.ne)).trans (h.c j s op e).1,(World.cell?_of_block (w:=w) (o.block g h.lt h.ne)).trans (h.c j s op e).2⟩⟩
theorem OpsM.out2 {w w':World} {p g ge:Nat} {ops:Ops} (h:OpsM w p g ops) (o:Out (fun j=>j=ge) w w') (hg:g≠ge):OpsM w' p g ops :=
 ⟨Nat.lt_of_lt_of_le h.lt o.size,h.ne,fun j s op e=>⟨(World.cell?_of_block (w:=w) (o.block g h.lt hg)).trans (h.c j s op e).1,(World.cell?_of_block (w:=w) (o.block g h.lt hg)).trans (h.c j s op e).2⟩⟩
theorem OpsM.below {w w':World} {p g:Nat} {ops:Ops} (h:OpsM w p g ops) (o:Below w.heap.size w w'):OpsM w' p g ops:=h.outs (Out.of o)
theorem drop_get {α:Type} {l:List α} {i:Nat} {x:α} (h:l[i]?=some x):l.drop i=x :: l.drop (i+1):=by
 have hi:=(List.getElem?_eq_some_iff.1 h)
 rw[List.drop_eq_getElem_cons hi.1,hi.2]
def OpA (p z k:Nat) (l:List Tok) (o:Option Int) (w:World) (e:Ending) (w':World):Prop :=
 match o with
 | some op=>e=.returned (.tuple #[.int .i64 op,.bool true])∧PSt w' p z l.tail k∧Out (fun j=>j=p) w w'
 | none=>e=.returned (.tuple #[.int .i64 0,.bool false])∧Below w.heap.size w w'
theorem OpA.some {p z k:Nat} {l:List Tok} {o:Option Int} {op:Int} {w w':World} {e:Ending} (h:OpA p z k l o w e w') (ho:o=.some op):e=.returned (.tuple #[.int .i64 op,.bool true])∧PSt w' p z l.tail k∧Out (fun j=>j=p) w w':=by subst ho;exact h
theorem OpA.none {p z k:Nat} {l:List Tok} {o:Option Int} {w w':World} {e:Ending} (h:OpA p z k l o w e w') (ho:o=.none):e=.returned (.tuple #[.int .i64 0,.bool false])∧Below w.heap.size w w':=by subst ho;exact h
set_option maxHeartbeats 4000000 in
theorem operation_any (p z k g c:Nat) (l:List Tok) (ops:Ops) (w:World) (h:PSt w p z l k) (ho:OpsM w p g ops) (hlen:ops.length≤100):Calls Tryz.prog 88 #[.pointer (some ⟨p,0,none⟩),.slice (some ⟨g,0,none⟩) ops.length c] w (OpA p z k l (opOf ops l) w):=by
 have H:=zH h
 have HO:=zH ho
 obtain⟨n,hn⟩:∃ n,n=ops.length:=⟨_,rfl⟩
 rw[← hn] at hlen ⊢
 have HN:=zH hn
 clear h ho hn
 go_enter Tryz.func88,Tryz.ntmps88
 go_wp2_with fail
 go_loopw [10] (fun vi wr=>∃ i:Nat,vi=.int .i64 i∧i≤n∧Hid (opOf (ops.drop i) l=opOf ops l)∧Hid (Below w.heap.size w wr)) (fun vi _=>n - (intOf vi).toNat)
 case atStart=>exact⟨0,rfl,by omega,rfl,Below.refl _ _⟩
 case round =>
  obtain⟨i,rfl,hi,hQ,hB⟩:=hrel
  obtain⟨V,hV⟩:∃ V,V=wr:=⟨_,rfl⟩
  rw[← hV] at hB
  rw[← hV]
  have HB:=zH hB.out
  have HQ:=zH hQ.out
  clear hV hB hQ
  by_cases hlt:i<n
  ·obtain⟨⟨s,op⟩,hs⟩:∃ y,ops[i]?=some y:=⟨_,List.getElem?_eq_getElem (by rw[← HN.out];exact hlt)⟩
   obtain⟨f0,f1⟩:=(HO.out.below HB.out).c i s op hs
   have lg:=(HO.out.below HB.out).lt
   have HD:=zH (drop_get hs)
   clear hs
   have b1:Below V.heap.size V (V.alloc (.cells #[.string (bsB s),.int .i64 op] 127)):=ext_alloc (ext_refl _) _
   have HP:=zH ((H.out.below HB.out).below b1)
   have HB1:=zH (HB.out.trans (b1.mono HB.out.size))
   have NB:=zH (BkA.new V [.string (bsB s),.int .i64 op] 127)
   have lp:=H.out.lt
   have hVs:=HB.out.size
   clear b1
   cases hse:hSees s l with
   | true =>
    obtain⟨t,r,hl,-,-⟩:=sees_cons hse
    have HO2:=zH (show opOf ops l=some op by rw[← HQ.out,HD.out,opOf,hse,if_pos rfl])
    subst hl
    have T:=zH (take_yes p z k t r s _ HP.out hse)
    clear hse
    go_wp2_with fail
    refine T.out.mono ?_
    rintro e X ⟨rfl,hP,ho⟩
    have HX:=zH hP
    have q:=NB.out.outs ho (by omega)
    have d1:=q.c 1 _ rfl
    have HOX:=zH ho
    clear hP ho q
    go_wp2_with fail
    exact bodyPost_ret (v:=.tuple #[.int .i64 op,.bool true]) (by simp[results,Tryz.results88,go_sem]) rfl (by rw[HO2.out];exact⟨rfl,HX.out,(Out.of HB1.out).trans HOX.out⟩)
   | false =>
    have HO2:=zH (show opOf (ops.drop (i+1)) l=opOf ops l by rw[← HQ.out,HD.out,opOf,hse];rfl)
    have T:=zH (take_no p z k l s _ HP.out hse)
    clear hse
    go_wp2_with fail
    refine T.out.mono ?_
    rintro e X ⟨rfl,hb⟩
    have HBX:=zH (HB1.out.trans (hb.mono HB1.out.size))
    clear hb
    go_wp2_with fail
    go_roundw
    case rel=>exact⟨i+1,by go_num,hlt,HO2.out,HBX.out⟩
    case measure=>simp[intOf] <;> omega
  ·have HO2:=zH (show opOf ops l=none by rw[← HQ.out,List.drop_eq_nil_of_le (by rw[← HN.out];omega)];rfl)
   go_wp2_with fail
   exact bodyPost_ret (v:=.tuple #[.int .i64 0,.bool false]) (by simp[results,Tryz.results88,go_sem]) rfl (by rw[HO2.out];exact⟨rfl,HB.out⟩)
open Go.RowKit
set_option maxRecDepth 100000
theorem step_call0 {w:World} {ops:Array Oper} {o:Oper} {a:Act} {K:Act→World→Prop} {Q:Exit→Act→World→Prop} {R:Prop} (hgd:o.guard=none) (x:Operand) (ts:Array TypeId) (ho:o.op=.call { callee:=.value x,args:=#[],argTypes:=ts }) (f:FuncId) (u:Value) (hx:a.eval x=.func (.func f) #[u] #[])
  (hcf:(callFunc f #[u]).run Tryz.prog w=.ok (.enter f #[u]) w) (h:Calls Tryz.prog f #[u] w (fun e w'=>∃ v,e=.returned v∧K (a.put o.dst v) w')):if Region.wanted o (yielded ops a.tmps)=true then Oper.wp Tryz.prog o a w K Q else R:=by
 have hw:Region.wanted o (yielded ops a.tmps)=true:=by simp[Region.wanted,hgd]
 rw[if_pos hw]
 unfold Oper.wp execOp
 simp only[ho,resolve,invoke,Sem.run_bind,List.map_toArray,List.map_nil,hx]
 have e2:(Deferred.ofValue (.func (.func f) #[u] #[]) #[]).run Tryz.prog w=.ok ⟨.fn (.func f) #[],#[u]⟩ w:=by
  simp[Deferred.ofValue,go_sem]
 simp only[e2,Result.andThen_ok,Array.append_empty]
 rw[hcf]
 refine h.mono ?_
 rintro e w' ⟨v,rfl,hk⟩
 exact hk
theorem step_call0p {w:World} {ops:Array Oper} {o:Oper} {a:Act} {K:Act→World→Prop} {Q:Exit→Act→World→Prop} {R:Prop} (hgd:o.guard=none) (x:Operand) (ts:Array TypeId) (ho:o.op=.call { callee:=.value x,args:=#[],argTypes:=ts }) (f:FuncId) (u:Value) (hx:a.eval x=.func (.func f) #[u] #[])
  (hcf:(callFunc f #[u]).run Tryz.prog w=.ok (.enter f #[u]) w) (h:Calls Tryz.prog f #[u] w (fun e w'=>∃ ch,e=.panicked ch∧Q (.panic ch) a w')):if Region.wanted o (yielded ops a.tmps)=true then Oper.wp Tryz.prog o a w K Q else R:=by
 have hw:Region.wanted o (yielded ops a.tmps)=true:=by simp[Region.wanted,hgd]
 rw[if_pos hw]
 unfold Oper.wp execOp
 simp only[ho,resolve,invoke,Sem.run_bind,List.map_toArray,List.map_nil,hx]
 have e2:(Deferred.ofValue (.func (.func f) #[u] #[]) #[]).run Tryz.prog w=.ok ⟨.fn (.func f) #[],#[u]⟩ w:=by
  simp[Deferred.ofValue,go_sem]
 simp only[e2,Result.andThen_ok,Array.append_empty]
 rw[hcf]
 refine h.mono ?_
 rintro e w' ⟨v,rfl,hk⟩
 exact hk
theorem step_call1 {w:World} {ops:Array Oper} {o:Oper} {a:Act} {K:Act→World→Prop} {Q:Exit→Act→World→Prop} {R:Prop} (hgd:o.guard=none) (f:Nat) (x:Operand) (ts:Array TypeId) (ho:o.op=.call { callee:=.value (.func f),args:=#[x],argTypes:=ts }) (u:Value) (hx:a.eval x=u)
  (hcf:(callFunc f #[u]).run Tryz.prog w=.ok (.enter f #[u]) w) (h:Calls Tryz.prog f #[u] w (fun e w'=>∃ v,e=.returned v∧K (a.put o.dst v) w')):if Region.wanted o (yielded ops a.tmps)=true then Oper.wp Tryz.prog o a w K Q else R:=by
 have hw:Region.wanted o (yielded ops a.tmps)=true:=by simp[Region.wanted,hgd]
 rw[if_pos hw]
 unfold Oper.wp execOp
 simp only[ho,resolve,invoke,Sem.run_bind,List.map_toArray,List.map_cons,List.map_nil,hx]
 have e:a.eval (.func f)=.func (.func f) #[] #[]:=rfl
 rw[e]
 have e2:(Deferred.ofValue (.func (.func f) #[] #[]) #[u]).run Tryz.prog w=.ok ⟨.fn (.func f) #[],#[u]⟩ w:=by
  simp[Deferred.ofValue,go_sem]
 simp only[e2,Result.andThen_ok,Array.append_empty]
 rw[hcf]
 refine h.mono ?_
 rintro e w' ⟨v,rfl,hk⟩
 exact hk
theorem step_call2 {w:World} {ops:Array Oper} {o:Oper} {a:Act} {K:Act→World→Prop} {Q:Exit→Act→World→Prop} {R:Prop} (hgd:o.guard=none) (f:Nat) (x y:Operand) (ts:Array TypeId) (ho:o.op=.call { callee:=.value (.func f),args:=#[x,y],argTypes:=ts }) (u v:Value) (hx:a.eval x=u) (hy:a.eval y=v)
  (hcf:(callFunc f #[u,v]).run Tryz.prog w=.ok (.enter f #[u,v]) w) (h:Calls Tryz.prog f #[u,v] w (fun e w'=>∃ r,e=.returned r∧K (a.put o.dst r) w')):if Region.wanted o (yielded ops a.tmps)=true then Oper.wp Tryz.prog o a w K Q else R:=by
 have hw:Region.wanted o (yielded ops a.tmps)=true:=by simp[Region.wanted,hgd]
 rw[if_pos hw]
 unfold Oper.wp execOp
 simp only[ho,resolve,invoke,Sem.run_bind,List.map_toArray,List.map_cons,List.map_nil,hx,hy]
 have e:a.eval (.func f)=.func (.func f) #[] #[]:=rfl
 rw[e]
 have e2:(Deferred.ofValue (.func (.func f) #[] #[]) #[u,v]).run Tryz.prog w=.ok ⟨.fn (.func f) #[],#[u,v]⟩ w:=by
  simp[Deferred.ofValue,go_sem]
 simp only[e2,Result.andThen_ok,Array.append_empty]
 rw[hcf]
 refine h.mono ?_
 rintro e w' ⟨r,rfl,hk⟩
 exact hk
theorem step_call1p {w:World} {ops:Array Oper} {o:Oper} {a:Act} {K:Act→World→Prop} {Q:Exit→Act→World→Prop} {R:Prop} (hgd:o.guard=none) (f:Nat) (x0:Operand) (ts:Array TypeId) (ho:o.op=.call { callee:=.value (.func f),args:=#[x0],argTypes:=ts }) (u:Value) (h0:a.eval x0=u)
  (hcf:(callFunc f #[u]).run Tryz.prog w=.ok (.enter f #[u]) w) (h:Calls Tryz.prog f #[u] w (fun e w'=>∃ ch,e=.panicked ch∧Q (.panic ch) a w')):if Region.wanted o (yielded ops a.tmps)=true then Oper.wp Tryz.prog o a w K Q else R:=by
 have hw:Region.wanted o (yielded ops a.tmps)=true:=by simp[Region.wanted,hgd]
 rw[if_pos hw]
 unfold Oper.wp execOp
 simp only[ho,resolve,invoke,Sem.run_bind,List.map_toArray,List.map_cons,List.map_nil,h0]
 have e:a.eval (.func f)=.func (.func f) #[] #[]:=rfl
 rw[e]
 have e2:(Deferred.ofValue (.func (.func f) #[] #[]) #[u]).run Tryz.prog w=.ok ⟨.fn (.func f) #[],#[u]⟩ w:=by
  simp[Deferred.ofValue,go_sem]
 simp only[e2,Result.andThen_ok,Array.append_empty]
 rw[hcf]
 refine h.mono ?_
 rintro e w' ⟨v,rfl,hk⟩
 exact hk
theorem step_call2p {w:World} {ops:Array Oper} {o:Oper} {a:Act} {K:Act→World→Prop} {Q:Exit→Act→World→Prop} {R:Prop} (hgd:o.guard=none) (f:Nat) (x0 x1:Operand) (ts:Array TypeId) (ho:o.op=.call { callee:=.value (.func f),args:=#[x0,x1],argTypes:=ts }) (u v:Value) (h0:a.eval x0=u) (h1:a.eval x1=v)
  (hcf:(callFunc f #[u,v]).run Tryz.prog w=.ok (.enter f #[u,v]) w) (h:Calls Tryz.prog f #[u,v] w (fun e w'=>∃ ch,e=.panicked ch∧Q (.panic ch) a w')):if Region.wanted o (yielded ops a.tmps)=true then Oper.wp Tryz.prog o a w K Q else R:=by
 have hw:Region.wanted o (yielded ops a.tmps)=true:=by simp[Region.wanted,hgd]
 rw[if_pos hw]
 unfold Oper.wp execOp
 simp only[ho,resolve,invoke,Sem.run_bind,List.map_toArray,List.map_cons,List.map_nil,h0,h1]
 have e:a.eval (.func f)=.func (.func f) #[] #[]:=rfl
 rw[e]
 have e2:(Deferred.ofValue (.func (.func f) #[] #[]) #[u,v]).run Tryz.prog w=.ok ⟨.fn (.func f) #[],#[u,v]⟩ w:=by
  simp[Deferred.ofValue,go_sem]
 simp only[e2,Result.andThen_ok,Array.append_empty]
 rw[hcf]
 refine h.mono ?_
 rintro e w' ⟨v,rfl,hk⟩
 exact hk
theorem Ans.err {α:Type} {R:Nat→World→α→Value→Prop} {p z k er a:Nat} {res:PR α} {w w':World} {e:Ending} (h:Ans R p z k res w e w') (hr:res=.err er a):e=faultE er a∧PE w' p∧Out (fun j=>j=p) w w':=by subst hr;exact h
theorem Ans.ok {α:Type} {R:Nat→World→α→Value→Prop} {p z k:Nat} {res:PR α} {x:α} {r:List Tok} {w w':World} {e:Ending} (h:Ans R p z k res w e w') (hr:res=.ok x r):(∃ v,e=.returned v∧R w.heap.size w' x v)∧PSt w' p z r k∧Out (fun j=>j=p) w w':=by subst hr;exact h
theorem Ans.mkErr {α:Type} {R:Nat→World→α→Value→Prop} {p z k er a:Nat} {res:PR α} {w w':World} (hr:res=.err er a) (h1:PE w' p) (h2:Out (fun j=>j=p) w w'):Ans R p z k res w (faultE er a) w':=by subst hr;exact⟨rfl,h1,h2⟩
theorem Ans.mkOk {α:Type} {R:Nat→World→α→Value→Prop} {p z k:Nat} {res:PR α} {x:α} {r:List Tok} {w w':World} {v:Value} (hr:res=.ok x r) (h0:R w.heap.size w' x v) (h1:PSt w' p z r k) (h2:Out (fun j=>j=p) w w'):Ans R p z k res w (.returned v) w':=by subst hr;exact⟨⟨v,rfl,h0⟩,h1,h2⟩
theorem Tryz.enterApply (vals:Array Value) (w:World):(callFunc 89 vals).run Tryz.prog w=.ok (.enter 89 vals) w:=by kernel_rfl
def restLen (w:World) (p:Nat):Nat:=match w.cell? ⟨p,0,none⟩ with
 | some (.slice _ n _)=>n
 | _=>0
theorem PSt.restLen {w:World} {p z k:Nat} {l:List Tok} (h:PSt w p z l k):restLen w p=l.length+1:=by
 obtain⟨g,off,c,h1,-⟩:=h.rest
 unfold Go.Proofs.YtapbglhjamddbaaGreatDoor.restLen
 rw[h1]
structure CL (w0 w:World) (p z k b ge gr:Nat) (e:Ex) (l:List Tok):Prop where
 st:PSt w p z l k
 val:∃ r:RawE,BkA w ge r.cells∧ExMP w (fun j=>b≤j∧j≠ge) e r.cells
 res:BkA w gr zExpr
 out:Out (fun j=>j=p∨w0.heap.size≤j) w0 w
theorem out9 (X:World) (g:Nat) (v0 v1 v2 v3 v4 v5 v6 v7 v8:Value):Out (fun j=>j=g) X (((((((((X.setCell ⟨g,0,none⟩ v0).setCell ⟨g,1,none⟩ v1).setCell ⟨g,2,none⟩ v2).setCell ⟨g,3,none⟩ v3).setCell ⟨g,4,none⟩ v4).setCell ⟨g,5,none⟩ v5).setCell ⟨g,6,none⟩ v6).setCell ⟨g,7,none⟩ v7).setCell ⟨g,8,none⟩ v8):=(((((((((Out.refl _ X).trans (Out.set (S:=fun j=>j=g) ⟨g,0,none⟩ v0 rfl)).trans (Out.set (S:=fun j=>j=g) ⟨g,1,none⟩ v1 rfl)).trans (Out.set (S:=fun j=>j=g) ⟨g,2,none⟩ v2 rfl)).trans (Out.set (S:=fun j=>j=g) ⟨g,3,none⟩ v3 rfl)).trans (Out.set (S:=fun j=>j=g) ⟨g,4,none⟩ v4 rfl)).trans (Out.set (S:=fun j=>j=g) ⟨g,5,none⟩ v5 rfl)).trans (Out.set (S:=fun j=>j=g) ⟨g,6,none⟩ v6 rfl)).trans (Out.set (S:=fun j=>j=g) ⟨g,7,none⟩ v7 rfl)).trans (Out.set (S:=fun j=>j=g) ⟨g,8,none⟩ v8 rfl)
theorem BkA.set9 {X:World} {g:Nat} {u0 u1 u2 u3 u4 u5 u6 u7 u8:Value} (h:BkA X g [u0,u1,u2,u3,u4,u5,u6,u7,u8]) (v0 v1 v2 v3 v4 v5 v6 v7 v8:Value):BkA (((((((((X.setCell ⟨g,0,none⟩ v0).setCell ⟨g,1,none⟩ v1).setCell ⟨g,2,none⟩ v2).setCell ⟨g,3,none⟩ v3).setCell ⟨g,4,none⟩ v4).setCell ⟨g,5,none⟩ v5).setCell ⟨g,6,none⟩ v6).setCell ⟨g,7,none⟩ v7).setCell ⟨g,8,none⟩ v8) g [v0,v1,v2,v3,v4,v5,v6,v7,v8]:=by
 obtain⟨a0,a1,a2,a3,a4,a5,a6,a7,a8⟩:=h.c9_ rfl
 refine⟨Nat.lt_of_lt_of_le h.lt (out9 X g v0 v1 v2 v3 v4 v5 v6 v7 v8).size,fun k u hu=>?_,fun i=>by simp only[World.frozen?_setCell];exact h.fz i⟩
 match k,hu with
 | 0,hu =>
  simp only[List.getElem?_cons_succ,List.getElem?_cons_zero,Option.some.injEq] at hu
  subst hu
  simp[go_sem,a0,a1,a2,a3,a4,a5,a6,a7,a8]
 | 1,hu =>
  simp only[List.getElem?_cons_succ,List.getElem?_cons_zero,Option.some.injEq] at hu
  subst hu
  simp[go_sem,a0,a1,a2,a3,a4,a5,a6,a7,a8]
 | 2,hu =>
  simp only[List.getElem?_cons_succ,List.getElem?_cons_zero,Option.some.injEq] at hu
  subst hu
  simp[go_sem,a0,a1,a2,a3,a4,a5,a6,a7,a8]
 | 3,hu =>
  simp only[List.getElem?_cons_succ,List.getElem?_cons_zero,Option.some.injEq] at hu
  subst hu
  simp[go_sem,a0,a1,a2,a3,a4,a5,a6,a7,a8]
 | 4,hu =>
  simp only[List.getElem?_cons_succ,List.getElem?_cons_zero,Option.some.injEq] at hu
  subst hu
  simp[go_sem,a0,a1,a2,a3,a4,a5,a6,a7,a8]
 | 5,hu =>
  simp only[List.getElem?_cons_succ,List.getElem?_cons_zero,Option.some.injEq] at hu
  subst hu
  simp[go_sem,a0,a1,a2,a3,a4,a5,a6,a7,a8]
 | 6,hu =>
  simp only[List.getElem?_cons_succ,List.getElem?_cons_zero,Option.some.injEq] at hu
  subst hu
  simp[go_sem,a0,a1,a2,a3,a4,a5,a6,a7,a8]
 | 7,hu =>
  simp only[List.getElem?_cons_succ,List.getElem?_cons_zero,Option.some.injEq] at hu
  subst hu
  simp[go_sem,a0,a1,a2,a3,a4,a5,a6,a7,a8]
 | 8,hu =>
  simp only[List.getElem?_cons_succ,List.getElem?_cons_zero,Option.some.injEq] at hu
  subst hu
  simp[go_sem,a0,a1,a2,a3,a4,a5,a6,a7,a8]
 | k+9,hu=>simp at hu
theorem CL.step {w0 X Y Z M:World} {p z k ge gr nb:Nat} {e y:Ex} {l' r':List Tok} {op:Int} {re ry:RawE} (hX:CL w0 X p z k (gr+1) ge gr e l') (hb:gr<ge) (hpg:p<gr) (hw0:w0.heap.size≤gr) (hge:ge<X.heap.size)
  (hxe:ExMP X (fun j=>gr+1≤j∧j≠ge) e re.cells) (hO:Out (fun j=>j=p) X Y) (hP:PSt Y p z r' k) (hy:ExMP Y (fun j=>X.heap.size≤j) y ry.cells) (hnb:nb=Y.heap.size) (hZ:Below Y.heap.size Y Z) (hZs:nb<Z.heap.size) (hZc:∀ (j:Nat) u,(re.cells++ry.cells)[j]?=some u→Z.cell? ⟨nb,j,none⟩=some u)
  (hM:Out (fun j=>j=ge) Z M) (hMc:BkA M ge (exCells op zeroVal 0 0 0 ⟨#[]⟩ (some ⟨nb,0,none⟩) 2 2)):CL w0 M p z k (gr+1) ge gr (exTwo op e y) r':=by
 have hXY:=hO.size
 have hYZ:=hZ.size
 have hZM:=hM.size
 refine⟨(hP.below hZ).outs hM (fun j hj=>by omega),⟨⟨op,zeroVal,0,0,0,⟨#[]⟩,some ⟨nb,0,none⟩,2,2⟩,hMc,?_⟩,((hX.res.outs hO (by omega)).on hZ).outs hM (by omega),((hX.out.trans hO.up).trans (Out.of hZ)).trans (hM.mono fun j _ hj=>.inr (by omega))⟩
 unfold exTwo
 rw[ExMP.iff]
 refine⟨⟨rfl,rfl,Nat.zero_le _⟩,some ⟨nb,0,none⟩,2,rfl,Nat.le_refl _,ExLP.two (cs:=re.cells) (ds:=ry.cells) ?_ ?_ (by omega) ⟨by omega,by omega⟩ fun j u hu=>(World.cell?_of_block (w:=Z) (hM.block nb hZs (by omega))).trans (hZc j u hu)⟩
 ·exact ExMP.on (by omega) (fun j hj hl=>(hM.block j (by omega) hj.2).trans ((hZ.block j (by omega)).trans (hO.block j hl (by have:=hj.1;omega)))) (fun _ h _=>h) _ _ hxe
 ·exact ExMP.on (by omega) (fun j hj hl=>(hM.block j (by omega) (by omega)).trans (hZ.block j hl)) (fun j hj _=>⟨by omega,by omega⟩) _ _ hy
set_option maxHeartbeats 8000000 in
theorem chain_any (f:FuncId) (one:Rd Ex) (ops:Ops) (p z k g c:Nat) (hk:Keep one) (hen:∀ (args:Array Value) (w:World),(callFunc f args).run Tryz.prog w=.ok (.enter f args) w) (h1:∀ (l:List Tok) (w:World),PSt w p z l k→Calls Tryz.prog f #[.pointer (some ⟨p,0,none⟩)] w (Ans ExV p z k (one l) w)) (hlen:ops.length≤100)
  (l:List Tok) (w:World) (h:PSt w p z l k) (ho:OpsM w p g ops):Calls Tryz.prog 77 #[.pointer (some ⟨p,0,none⟩),.func (.func f) #[.pointer (some ⟨p,0,none⟩)] #[],.slice (some ⟨g,0,none⟩) ops.length c] w (Ans ExV p z k (chain one ops l) w):=by
 have b0:Below w.heap.size w (w.alloc (.cells zExpr.toArray 44)):=ext_alloc (ext_refl _) _
 have N0:=zH (BkA.new w zExpr 44)
 have HP0:=zH (h.below b0)
 have HO0:=zH (ho.below b0)
 have B0:=zH b0
 have H1:=zH h1
 have HK:=zH hk
 have lp:=h.lt
 have C1:=zH (h1 l _ HP0.out)
 clear h ho h1 b0 hk
 cases hr:one l with
 | err er a =>
  have HR:=zH (show chain one ops l=.err er a by unfold chain;rw[hr];rfl)
  have HR1:=zH hr
  clear hr
  go_enter Tryz.func77,Tryz.ntmps77
  go_wp2_with fail
  refine C1.out.mono ?_
  intro e V hA
  obtain⟨rfl,hE,hO⟩:=hA.err HR1.out
  go_wp2_with fail
  exact⟨rfl,Ans.mkErr HR.out hE ((Out.of B0.out).trans hO)⟩
 | ok x r =>
  have HR:=zH (show chain one ops l=chainW one ops x r by unfold chain;rw[hr];rfl)
  have HR1:=zH hr
  clear hr
  go_enter Tryz.func77,Tryz.ntmps77
  go_wp2_with fail
  refine C1.out.mono ?_
  intro e V hA
  obtain⟨⟨v,rfl,⟨re,rfl,hx⟩⟩,hP,hO⟩:=hA.ok HR1.out
  obtain⟨eop,⟨evk,evn,evs⟩,erel,ecol,en,es,eq,elen,ec⟩:=re
  have BV:=zH ((Out.of (S:=fun j=>j=p) B0.out).trans hO)
  have NV:=zH (N0.out.outs hO (by omega))
  have HPV:=zH hP
  have b1:Below V.heap.size V (V.alloc (.cells #[.int .i64 eop,.int .i64 evk,.int .i64 evn,.string evs,.int .i64 erel,.int .i64 ecol,.int .i64 en,.string es,.slice eq elen ec] 44)):=ext_alloc (ext_refl _) _
  have CL1:=zH (show CL w (V.alloc (.cells #[.int .i64 eop,.int .i64 evk,.int .i64 evn,.string evs,.int .i64 erel,.int .i64 ecol,.int .i64 en,.string es,.slice eq elen ec] 44)) p z k (w.heap.size+1) V.heap.size w.heap.size x r from ⟨hP.below b1,⟨⟨eop,⟨evk,evn,evs⟩,erel,ecol,en,es,eq,elen,ec⟩,BkA.new V [.int .i64 eop,.int .i64 evk,.int .i64 evn,.string evs,.int .i64 erel,.int .i64 ecol,.int .i64 en,.string es,.slice eq elen ec] 44,ExMP.on b1.size (fun j _ hj=>b1.block j hj) (fun j hj hl=>⟨by have hs:(w.alloc (.cells zExpr.toArray 44)).heap.size=w.heap.size+1:=(by simp);rw[← hs];exact hj,by omega⟩) _ _ hx⟩,NV.out.on b1,(BV.out.up (N:=w.heap.size)).trans (Out.of b1)⟩)
  have HOV:=zH ((HO0.out.outs hO).below b1)
  obtain⟨ge,hge⟩:∃ ge,ge=V.heap.size:=⟨_,rfl⟩
  obtain⟨gr,hgr⟩:∃ gr,gr=w.heap.size:=⟨_,rfl⟩
  have hlr:w.heap.size≤V.heap.size:=BV.out.size
  have hne:gr≠ge:=by have:=NV.out.lt;omega
  have hgw:w.heap.size≤ge:=by omega
  have hpe:ge≠p:=by omega
  have hpr:gr≠p:=by omega
  have hplt:p<gr:=by omega
  have HGE:=zH (show g<ge by have h1:=HO0.out.lt;have h2:=hO.size;omega)
  have hrlt:gr<ge:=by omega
  rw[← hge,← hgr] at CL1
  clear hP hO hx b1 NV HPV BV
  obtain⟨U,hU⟩:∃ U,U=V.alloc (.cells #[.int .i64 eop,.int .i64 evk,.int .i64 evn,.string evs,.int .i64 erel,.int .i64 ecol,.int .i64 en,.string es,.slice eq elen ec] 44):=⟨_,rfl⟩
  rw[← hU] at CL1 HOV
  have HUW:=zH hU
  go_wp2_with fail
  rw[← hgr,← hge,← HUW.out]
  go_loopw [8] (fun _ wr=>∃ (e:Ex) (l':List Tok),Hid (chainW one ops e l'=chain one ops l)∧Hid (CL w wr p z k (gr+1) ge gr e l')∧Hid (OpsM wr p g ops)) (fun _ wr=>restLen wr p)
  case atStart=>exact⟨x,r,HR.out.symm,CL1.out,HOV.out⟩
  case round =>
   obtain⟨e,l',hQ,hC,hM⟩:=hrel
   obtain⟨W,hW⟩:∃ W,W=wr:=⟨_,rfl⟩
   rw[← hW] at hC hM ⊢
   have HQ:=zH hQ.out
   have HC:=zH hC.out
   have HM:=zH hM.out
   clear hW hQ hC hM
   obtain⟨⟨fop,⟨fvk,fvn,fvs⟩,frel,fcol,fn,fs,fq,flen,fc⟩,hre,hxe⟩:=HC.out.val
   have HRE:=zH hre
   have HXE:=zH hxe
   have hpW:=HC.out.st.lt
   have hgW:=hre.lt
   have hzW:=HC.out.res.lt
   have HGR:=zH hgr
   have OPC:=zH (operation_any p z k g c l' ops W HC.out.st HM.out hlen)
   clear hre hxe hgr hge CL1 HOV HUW HR1 hU C1 HP0 HO0 N0
   cases hop:opOf ops l' with
   | none =>
    have HOP:=zH hop
    clear hop
    go_wp2_with fail
    refine OPC.out.mono ?_
    intro e1 X hA
    obtain⟨rfl,hb⟩:=hA.none HOP.out
    have q:=HRE.out.on hb
    obtain⟨c0,c1,c2,c3,c4,c5,c6,c7,c8⟩:=q.c9_ rfl
    have q2:=HC.out.res.on hb
    obtain⟨d0,d1,d2,d3,d4,d5,d6,d7,d8⟩:=q2.c9_ rfl
    have fz:=q2.fz
    have HB:=zH hb
    clear hb q q2 hA
    go_wp2_with fail
    have o9:=out9 X gr (.int .i64 fop) (.int .i64 fvk) (.int .i64 fvn) (.string fvs) (.int .i64 frel) (.int .i64 fcol) (.int .i64 fn) (.string fs) (.slice fq flen fc)
    have hxx:=ExMP.on (Q:=fun j=>gr≤j) (Nat.le_trans HB.out.size o9.size) (fun j hj hl=>(o9.block j (Nat.lt_of_lt_of_le hl HB.out.size) (by have:=hj.1;omega)).trans (HB.out.block j hl)) (fun j hj _=>by have:=hj.1;omega) _ _ HXE.out
    refine bodyPost_ret (v:=(Value.agg #[.int .i64 fop,.int .i64 fvk,.int .i64 fvn,.string fvs,.int .i64 frel,.int .i64 fcol,.int .i64 fn,.string fs,.slice fq flen fc])) (by simp[results,Tryz.results77,go_sem,d0,d1,d2,d3,d4,d5,d6,d7,d8]) rfl (Ans.mkOk (x:=e) (r:=l') ?_ ⟨⟨fop,⟨fvk,fvn,fvs⟩,frel,fcol,fn,fs,fq,flen,fc⟩,rfl,by rw[← HGR.out];exact hxx⟩ ((HC.out.st.below HB.out).outs o9 (fun j hj=>by rw[hj];omega)) ?_)
    ·rw[← HQ.out,chainW_none HOP.out]
    ·refine Out.down ((HC.out.out.trans (Out.of HB.out)).trans (o9.mono fun j _ hj=>.inr (by have h1:j=gr:=hj;have h2:=HGR.out;omega)))
   | some op =>
    have HOP:=zH hop
    clear hop
    go_wp2_with fail
    refine OPC.out.mono ?_
    intro e1 X hA
    obtain⟨rfl,hP,hO⟩:=hA.some HOP.out
    have HPX:=zH hP
    have HOX:=zH hO
    have HRX:=zH (HRE.out.outs hO hpe)
    have HXX:=zH (ExMP.on (Q:=fun j=>gr+1≤j∧j≠ge) hO.size (fun j hj hl=>hO.block j hl (fun (e:j=p)=>by have h1:gr+1≤j:=hj.1;omega)) (fun _ h _=>h) _ _ HXE.out)
    have HZX:=zH (HC.out.res.outs hO hpr)
    have HMX:=zH (HM.out.outs hO)
    have CX:=zH (H1.out l'.tail X hP)
    have HWX:=hO.size
    clear hP hO hA
    go_wp2_with fail
    have hd0:Below X.heap.size X X.drew:=(Below.refl _ _).drew
    have HD:=zH hd0
    have CXD:=zH (H1.out l'.tail X.drew (HPX.out.below hd0))
    have HAP:=fun (vals:Array Value) (w:World)=>Tryz.enterApply vals w
    have q:=HRX.out
    have q2:=HRX.out.on hd0
    have hgX:=q.lt
    clear hd0
    cases hr2:one l'.tail with
    | err er a =>
     have HR2:=zH hr2
     have HRES:=zH (show chain one ops l=.err er a by rw[← HQ.out,chainW_err HOP.out hr2])
     have SA:=zH (show (fun W'=>W'.cell? ⟨ge,0,none⟩=some (.int .i64 fop)∧W'.cell? ⟨ge,1,none⟩=some (.int .i64 fvk)∧W'.cell? ⟨ge,2,none⟩=some (.int .i64 fvn)∧W'.cell? ⟨ge,3,none⟩=some (.string fvs)∧W'.cell? ⟨ge,4,none⟩=some (.int .i64 frel)∧W'.cell? ⟨ge,5,none⟩=some (.int .i64 fcol)∧W'.cell? ⟨ge,6,none⟩=some (.int .i64 fn)∧W'.cell? ⟨ge,7,none⟩=some (.string fs)∧W'.cell? ⟨ge,8,none⟩=some (.slice fq flen fc)) X.drew from ⟨q2.c 0 _ rfl,q2.c 1 _ rfl,q2.c 2 _ rfl,q2.c 3 _ rfl,q2.c 4 _ rfl,q2.c 5 _ rfl,q2.c 6 _ rfl,q2.c 7 _ rfl,q2.c 8 _ rfl⟩)
     have SX:=zH (show (fun W'=>W'.cell? ⟨ge,0,none⟩=some (.int .i64 fop)∧W'.cell? ⟨ge,1,none⟩=some (.int .i64 fvk)∧W'.cell? ⟨ge,2,none⟩=some (.int .i64 fvn)∧W'.cell? ⟨ge,3,none⟩=some (.string fvs)∧W'.cell? ⟨ge,4,none⟩=some (.int .i64 frel)∧W'.cell? ⟨ge,5,none⟩=some (.int .i64 fcol)∧W'.cell? ⟨ge,6,none⟩=some (.int .i64 fn)∧W'.cell? ⟨ge,7,none⟩=some (.string fs)∧W'.cell? ⟨ge,8,none⟩=some (.slice fq flen fc)) X from ⟨q.c 0 _ rfl,q.c 1 _ rfl,q.c 2 _ rfl,q.c 3 _ rfl,q.c 4 _ rfl,q.c 5 _ rfl,q.c 6 _ rfl,q.c 7 _ rfl,q.c 8 _ rfl⟩)
     have PO:=zH (HC.out.out.trans (HOX.out.up (N:=w.heap.size)))
     clear hr2 q q2
     refine wp_region_held_drew (S:=fun W'=>W'.cell? ⟨ge,0,none⟩=some (.int .i64 fop)∧W'.cell? ⟨ge,1,none⟩=some (.int .i64 fvk)∧W'.cell? ⟨ge,2,none⟩=some (.int .i64 fvn)∧W'.cell? ⟨ge,3,none⟩=some (.string fvs)∧W'.cell? ⟨ge,4,none⟩=some (.int .i64 frel)∧W'.cell? ⟨ge,5,none⟩=some (.int .i64 fcol)∧W'.cell? ⟨ge,6,none⟩=some (.int .i64 fn)∧W'.cell? ⟨ge,7,none⟩=some (.string fs)∧W'.cell? ⟨ge,8,none⟩=some (.slice fq flen fc)) (by kernel_rfl) SA.out (fun hS=>?_)
     refine wpAnyH_take (i:=0) (v:=.int .i64 op) rfl (by kernel_rfl) (by kernel_rfl) (by kernel_rfl) (fun _ _ _ h=>h) (Or.inl ⟨rfl,fun w hw=>?_⟩) hS ?_
     ·obtain⟨a0,a1,a2,a3,a4,a5,a6,a7,a8⟩:=hw
      go_simp
     (try simp only[Act.put,List.setIfInBounds_toArray,List.set_cons_zero,List.set_cons_succ])
     refine wpAnyH_take (i:=1) (v:=(.agg #[.int .i64 fop,.int .i64 fvk,.int .i64 fvn,.string fvs,.int .i64 frel,.int .i64 fcol,.int .i64 fn,.string fs,.slice fq flen fc])) rfl (by kernel_rfl) (by kernel_rfl) (by kernel_rfl) (fun _ _ _ h=>h) (Or.inl ⟨rfl,fun w hw=>?_⟩) hS ?_
     ·obtain⟨a0,a1,a2,a3,a4,a5,a6,a7,a8⟩:=hw
      go_simp
     (try simp only[Act.put,List.setIfInBounds_toArray,List.set_cons_zero,List.set_cons_succ])
     refine wpAnyH_take (i:=2) (v:=.func (.func f) #[.pointer (some ⟨p,0,none⟩)] #[]) rfl (by kernel_rfl) (by kernel_rfl) (by kernel_rfl) (fun _ _ _ h=>h) (Or.inl ⟨rfl,fun w hw=>?_⟩) hS ?_
     ·obtain⟨a0,a1,a2,a3,a4,a5,a6,a7,a8⟩:=hw
      go_simp
     (try simp only[Act.put,List.setIfInBounds_toArray,List.set_cons_zero,List.set_cons_succ])
     refine wpAnyH_ready (rs:=[3]) (by kernel_rfl) (by decide) (AllReadyH.cons rfl (fun K' _=>?_) AllReadyH.nil)
     refine step_call0p rfl (.tmp 23) _ rfl f (.pointer (some ⟨p,0,none⟩)) rfl (hen _ _) ?_
     refine CXD.out.mono ?_
     intro e2 Y hA2
     obtain⟨rfl,hE2,hO2⟩:=hA2.err HR2.out
     exact⟨_,rfl,rfl,Ans.mkErr HRES.out hE2 (Out.down ((PO.out.trans (Out.of HD.out)).trans hO2.up))⟩
    | ok y r' =>
     have HR2:=zH hr2
     have HQ2:=zH (show chainW one ops (exTwo op e y) r'=chain one ops l by rw[← HQ.out,chainW_some HK.out HOP.out hr2])
     clear hr2
     obtain⟨c0,c1,c2,c3,c4,c5,c6,c7,c8⟩:=q.c9_ rfl
     obtain⟨d0,d1,d2,d3,d4,d5,d6,d7,d8⟩:=q2.c9_ rfl
     have fzX:=q.fz
     have fzD:=q2.fz
     clear q q2
     go_region_law (first
      |(refine step_call0 rfl (.tmp 23) _ rfl f (.pointer (some ⟨p,0,none⟩)) rfl (hen _ _) ?_;(with_reducible refine CXD.out.mono ?_);intro e2 Y hA2;obtain⟨⟨v2,rfl,⟨⟨gop,⟨gvk,gvn,gvs⟩,grel,gcol,gn,gs,gq,glen,gc⟩,rfl,hy⟩⟩,hP2,hO2⟩:=hA2.ok HR2.out;refine⟨_,rfl,?_⟩;have HYY:=zH hy;have HPY:=zH hP2;have HOY:=zH (show Out (fun j=>j=p) X Y from (Out.of HD.out).trans hO2);have q:=HRX.out.outs HOY.out hpe;have y0:=q.c 0 _ rfl;have y1:=q.c 1 _ rfl;have y2:=q.c 2 _ rfl;have y3:=q.c 3 _ rfl;have y4:=q.c 4 _ rfl;have y5:=q.c 5 _ rfl;have y6:=q.c 6 _ rfl;have y7:=q.c 7 _ rfl;have y8:=q.c 8 _ rfl;have fzY:=q.fz;have hgY:=q.lt;have HRY:=zH q;clear hy hP2 hO2 hA2 q)
      |(refine step_call2 rfl 89 _ _ _ rfl (.int .i64 op) (.slice (some ⟨Y.heap.size,0,none⟩) 2 2) rfl rfl (HAP _ _) ?_;refine (apply_any op _ 2 2 _).mono ?_;rintro e3 Z ⟨rfl,hb3⟩;refine⟨_,rfl,?_⟩;have NZ:=zH ((BkA.new Y [.int .i64 fop,.int .i64 fvk,.int .i64 fvn,.string fvs,.int .i64 frel,.int .i64 fcol,.int .i64 fn,.string fs,.slice fq flen fc,.int .i64 gop,.int .i64 gvk,.int .i64 gvn,.string gvs,.int .i64 grel,.int .i64 gcol,.int .i64 gn,.string gs,.slice gq glen gc] 44).on hb3);have b1:Below Y.heap.size Y (Y.alloc (.cells #[.int .i64 fop,.int .i64 fvk,.int .i64 fvn,.string fvs,.int .i64 frel,.int .i64 fcol,.int .i64 fn,.string fs,.slice fq flen fc,.int .i64 gop,.int .i64 gvk,.int .i64 gvn,.string gvs,.int .i64 grel,.int .i64 gcol,.int .i64 gn,.string gs,.slice gq glen gc] 44)):=(ext_alloc (ext_refl _) _);have HBZ:=zH (b1.trans (hb3.mono b1.size));have RZ:=zH (HRY.out.on HBZ.out);have z0:=RZ.out.c 0 _ rfl;have z1:=RZ.out.c 1 _ rfl;have z2:=RZ.out.c 2 _ rfl;have z3:=RZ.out.c 3 _ rfl;have z4:=RZ.out.c 4 _ rfl;have z5:=RZ.out.c 5 _ rfl;have z6:=RZ.out.c 6 _ rfl;have z7:=RZ.out.c 7 _ rfl;have z8:=RZ.out.c 8 _ rfl;have fzZ:=RZ.out.fz;have hgZ:=RZ.out.lt;clear hb3 b1))
     all_goals
      have o9:=out9 Z ge (.int .i64 op) (.int .i64 0) (.int .i64 0) (.string ⟨#[]⟩) (.int .i64 0) (.int .i64 0) (.int .i64 0) (.string ⟨#[]⟩) (.slice (some ⟨Y.heap.size,0,none⟩) 2 2)
      have NC:=zH (RZ.out.set9 (.int .i64 op) (.int .i64 0) (.int .i64 0) (.string ⟨#[]⟩) (.int .i64 0) (.int .i64 0) (.int .i64 0) (.string ⟨#[]⟩) (.slice (some ⟨Y.heap.size,0,none⟩) 2 2))
      have O9:=zH o9
      have hYs:Y.heap.size<Z.heap.size:=NZ.out.lt
      have hX:CL w X p z k (gr+1) ge gr e l'.tail:=⟨HPX.out,⟨_,HRX.out,HXX.out⟩,HZX.out,HC.out.out.trans HOX.out.up⟩
      have HYX:=zH (ExMP.on (Q:=fun j=>X.heap.size≤j) (Nat.le_refl _) (fun _ _ _=>rfl) (fun j hj _=>hj) _ _ HYY.out)
      have HNEW:=zH (CL.step (op:=op) (re:=⟨fop,⟨fvk,fvn,fvs⟩,frel,fcol,fn,fs,fq,flen,fc⟩) (ry:=⟨gop,⟨gvk,gvn,gvs⟩,grel,gcol,gn,gs,gq,glen,gc⟩) hX hrlt hplt (by have:=HGR.out;omega) hgX HXX.out HOY.out HPY.out HYX.out rfl HBZ.out hYs NZ.out.c O9.out NC.out)
      have HM3:=zH (((HMX.out.outs HOY.out).below HBZ.out).out2 O9.out (by have:=HGE.out;omega))
      have HLEN:=zH (show r'.length<l'.length by
       obtain⟨t0,l0,e0⟩:=opOf_cons HOP.out
       have h1:=HK.out.len HR2.out
       rw[e0] at h1 ⊢
       simp only[List.tail_cons,List.length_cons] at h1 ⊢
       omega)
      have hm1:=HNEW.out.st.restLen
      have hm2:=HC.out.st.restLen
      go_roundw
      case rel=>exact⟨_,_,_,_,_,_,_,_,_,_,_,_,_,_,_,_,_,⟨exTwo op e y,r',HQ2.out,HNEW.out,HM3.out⟩,rfl⟩
      case measure=>exact lt_of_eq_of_lt hm1 (by rw[hm2];have:=HLEN.out;omega)
end Go.Proofs.YtapbglhjamddbaaGreatDoor
