/- A part of the proof. -/
import Derived.Test.YtapbglhjamddbaaGreatDoorKw
import Derived.Test.YtapbglhjamddbaaGreatDoorKx
import Derived.Test.YtapbglhjamddbaaGreatDoorHd
namespace Go.Proofs.YtapbglhjamddbaaGreatDoor
open Go.RowKit
set_option maxRecDepth 100000
structure RD (w:World) (A S K m:Nat) (s:ByteArray) (j:Nat):Prop where
 at0:w.cell? ⟨A,0,none⟩=some (.int .i64 (j:Int))
 sC:w.cell? ⟨S,0,none⟩=some (.string s)
 kC:w.cell? ⟨K,0,none⟩=some (.map (some m))
 fA:∀ o,w.frozen? ⟨A,o,none⟩=false
 lA:A<w.heap.size
 lS:S<w.heap.size
 lK:K<w.heap.size
 lm:m<w.heap.size
 nS:S≠A
 nK:K≠A
 nm:m≠A
 hA:12≤A
 words:WordsM w m
 vars:GV w
theorem RD.on {w w':World} {A S K m:Nat} {s:ByteArray} {j:Nat} (h:RD w A S K m s j) (hb:Below w.heap.size w w'):RD w' A S K m s j where
 at0:=(hb.cell (p:=⟨_,_,none⟩) h.lA).trans h.at0
 sC:=(hb.cell (p:=⟨_,_,none⟩) h.lS).trans h.sC
 kC:=(hb.cell (p:=⟨_,_,none⟩) h.lK).trans h.kC
 fA o:=(hb.frozen (p:=⟨_,o,none⟩) h.lA).trans (h.fA o)
 lA:=Nat.lt_of_lt_of_le h.lA hb.size
 lS:=Nat.lt_of_lt_of_le h.lS hb.size
 lK:=Nat.lt_of_lt_of_le h.lK hb.size
 lm:=Nat.lt_of_lt_of_le h.lm hb.size
 nS:=h.nS
 nK:=h.nK
 nm:=h.nm
 hA:=h.hA
 words:=h.words.ext hb h.lm
 vars:=h.vars.on hb
theorem WordsM.set {w:World} {b:Nat} (h:WordsM w b) {p:Addr} (hp:p.block≠b) (v:Value):WordsM (w.setCell p v) b:=by
 obtain⟨D,⟨es,clock,hh,F,hs,hD⟩,h2⟩:=h
 have o:=Out.set (S:=fun k=>k=p.block) (a:=w) p v rfl
 exact⟨D,⟨es,clock,(o.block b (Array.getElem?_eq_some_iff.1 hh).1 (fun e=>hp e.symm)).trans hh,F,hs,hD⟩,h2⟩
theorem RD.set {w:World} {A S K m:Nat} {s:ByteArray} {j:Nat} (h:RD w A S K m s j) (i:Nat):RD (w.setCell ⟨A,0,none⟩ (.int .i64 (i:Int))) A S K m s i where
 at0:=World.cell?_setCell_same _ _ _ h.at0
 sC:=(World.cell?_setCell_other _ _ _ _ (fun e=>h.nS (by simpa using (congrArg Addr.block e).symm))).trans h.sC
 kC:=(World.cell?_setCell_other _ _ _ _ (fun e=>h.nK (by simpa using (congrArg Addr.block e).symm))).trans h.kC
 fA o:=by rw[World.frozen?_setCell];exact h.fA o
 lA:=by rw[World.size_setCell];exact h.lA
 lS:=by rw[World.size_setCell];exact h.lS
 lK:=by rw[World.size_setCell];exact h.lK
 lm:=by rw[World.size_setCell];exact h.lm
 nS:=h.nS
 nK:=h.nK
 nm:=h.nm
 hA:=h.hA
 words:=h.words.set (by intro e;exact h.nm e.symm) _
 vars:=h.vars.set h.hA _
theorem RD.setA {w:World} {A S K m:Nat} {s:ByteArray} {j:Nat} (h:RD w A S K m s j) {i:Nat} {x:Int} (hx:x=(i:Int)):RD (w.setCell ⟨A,0,none⟩ (.int .i64 x)) A S K m s i:=by rw[hx];exact h.set i
theorem RD.setO {w:World} {A S K m:Nat} {s:ByteArray} {j:Nat} (h:RD w A S K m s j) {g:Nat} (hg:A<g∧S<g∧K<g∧m<g) (o:Nat) (v:Value):RD (w.setCell ⟨g,o,none⟩ v) A S K m s j where
 at0:=(World.cell?_setCell_other _ _ _ _ (fun e=>Nat.ne_of_lt hg.1 (by simpa using (congrArg Addr.block e).symm))).trans h.at0
 sC:=(World.cell?_setCell_other _ _ _ _ (fun e=>Nat.ne_of_lt hg.2.1 (by simpa using (congrArg Addr.block e).symm))).trans h.sC
 kC:=(World.cell?_setCell_other _ _ _ _ (fun e=>Nat.ne_of_lt hg.2.2.1 (by simpa using (congrArg Addr.block e).symm))).trans h.kC
 fA o:=by rw[World.frozen?_setCell];exact h.fA o
 lA:=by rw[World.size_setCell];exact h.lA
 lS:=by rw[World.size_setCell];exact h.lS
 lK:=by rw[World.size_setCell];exact h.lK
 lm:=by rw[World.size_setCell];exact h.lm
 nS:=h.nS
 nK:=h.nK
 nm:=h.nm
 hA:=h.hA
 words:=h.words.set (Nat.ne_of_gt hg.2.2.2) _
 vars:=h.vars.set (Nat.le_trans h.hA (Nat.le_of_lt hg.1)) _
theorem TK.all {W:World} {g:Nat} {kd n a:Int} {st:ByteArray} (h:TK W g kd n a st) (kd' n' a':Int) (st':ByteArray):TK ((((W.setCell ⟨g,0,none⟩ (.int .i64 kd')).setCell ⟨g,1,none⟩ (.int .i64 n')).setCell ⟨g,2,none⟩ (.int .i64 a')).setCell ⟨g,3,none⟩ (.string st')) g kd' n' a' st':=by
 obtain⟨lt,c0,c1,c2,c3,fz⟩:=h
 exact⟨by simp only[World.size_setCell];exact lt,by simp[go_sem,c0],by simp[go_sem,c1],by simp[go_sem,c2],by simp[go_sem,c3],fun o=>by simp only[World.frozen?_setCell];exact fz o⟩
theorem TK.set {W:World} {g:Nat} {kd n a:Int} {st:ByteArray} (h:TK W g kd n a st) {p:Addr} (hp:p.block≠g) (v:Value):TK (W.setCell p v) g kd n a st :=
 ⟨by rw[World.size_setCell];exact h.lt,(World.cell?_setCell_other _ _ _ _ (fun e=>hp (by rw[e]))).trans h.c0,(World.cell?_setCell_other _ _ _ _ (fun e=>hp (by rw[e]))).trans h.c1,(World.cell?_setCell_other _ _ _ _ (fun e=>hp (by rw[e]))).trans h.c2,(World.cell?_setCell_other _ _ _ _ (fun e=>hp (by rw[e]))).trans h.c3,fun o=>by rw[World.frozen?_setCell];exact h.fz o⟩
theorem Out.setNew {S:Nat→Prop} {w a:World} (h:Out S w a) {p:Addr} (hp:w.heap.size≤p.block) (v:Value):Out S w (a.setCell p v) :=
 ((h.mono (T:=fun k=>S k∨k=p.block) (fun k _ h=>.inl h)).trans (Out.set p v (.inr rfl))).mono (fun k hk h=>h.elim id (fun e=>absurd hk (by omega)))
theorem Out.four {S:Nat→Prop} {w a:World} (h:Out S w a) {g:Nat} (hg:w.heap.size≤g) (v0 v1 v2 v3:Value):Out S w ((((a.setCell ⟨g,0,none⟩ v0).setCell ⟨g,1,none⟩ v1).setCell ⟨g,2,none⟩ v2).setCell ⟨g,3,none⟩ v3) :=
 (((h.setNew hg v0).setNew hg v1).setNew hg v2).setNew hg v3
def NextIs (A S K m:Nat) (s:ByteArray) (p:Nat):Option One→Ending→World→Prop
 | none,e,_=>e=.returned (.tuple #[.agg #[.int .i64 0,.int .i64 0,.int .i64 0,.string ⟨#[]⟩],.int .i64 0,.int .i64 0])
 | some (.err er rel),e,_=>e=.returned (.tuple #[.agg #[.int .i64 0,.int .i64 0,.int .i64 0,.string ⟨#[]⟩],.int .i64 (er:Int),.int .i64 ((p:Int)+(rel:Int))])
 | some (.tok kd n st used),e,w'=>e=.returned (.tuple #[.agg #[.int .i64 (kd:Int),.int .i64 (n:Int),.int .i64 (p:Int),.string (bsB st)],.int .i64 0,.int .i64 0])∧RD w' A S K m s (p+used)
set_option maxHeartbeats 8000000 in
theorem next_end (A S K m:Nat) (s:ByteArray) (j:Nat) (w:World) (hR:RD w A S K m s j) (hj:j≤s.size) (hs:s.size≤2000) (p:Nat) (hp:p=j+((s.data.toList.drop j).takeWhile isBlank).length) (hlt:¬ p<s.size) :
  Calls Tryz.prog 39 #[.pointer (some ⟨A,0,none⟩),.pointer (some ⟨S,0,none⟩),.pointer (some ⟨K,0,none⟩)] w fun e w'=>NextIs A S K m s p none e w'∧Out (fun k=>k=A) w w':=by
 have hsl:s.data.toList.length=s.size:=Array.length_toList
 have hps:p≤s.size:=by have:=takeWhile_le isBlank (s.data.toList.drop j);rw[List.length_drop,hsl] at this;omega
 have hjp:j≤p:=by omega
 obtain⟨W0,hW0⟩:∃ W,W=w.alloc (.cells #[.int .i64 0,.int .i64 0,.int .i64 0,.string ⟨#[]⟩] 55):=⟨_,rfl⟩
 have T0:TK W0 w.heap.size 0 0 0 ⟨#[]⟩:=by rw[hW0];exact TK.new w 0 0 0 ⟨#[]⟩ _
 have B0:Below w.heap.size w W0:=by rw[hW0];(repeat (first | exact ext_refl _ | assumption |(refine ext_alloc ?_ _) |(refine ext_drewN ?_ _) | refine ext_drew ?_ |(refine ext_set (by first |(simp;done) |(simp;omega)) _ ?_) |(refine ext_trans ?_ (by assumption))))
 have hs0:W0.heap.size=w.heap.size+1:=by rw[hW0];simp
 have R0:RD W0 A S K m s j:=hR.on B0
 have hAZ:A<w.heap.size:=hR.lA
 have HN6:=zH (And.intro hR.lA (And.intro hR.lS (And.intro hR.lK hR.lm)))
 have HW:=zH hW0
 have hjs:(j:Int)≤(s.size:Int):=by omega
 have hj0:(0:Int)≤(j:Int):=by omega
 have hys:(s.extract j s.size).size≤2000:=by rw[← show (s.extract j s.size).data.toList.length=(s.extract j s.size).size from Array.length_toList,rest_data,List.length_drop,hsl];omega
 obtain⟨n,hn⟩:∃ n,n=((s.data.toList.drop j).takeWhile isBlank).length:=⟨_,rfl⟩
 rw[← hn] at hp
 have C0:=zH (fun W=>(span_blank (s.extract j s.size) W hys).mono fun e w' (h:_∧_)=>(⟨by rw[h.1,rest_data,← hn],by rw[h.2];exact Below.refl _ _⟩:e=.returned (.int .i64 (n:Int))∧Below W.heap.size W w'))
 have HP:=zH hp
 have HN:=zH hn
 clear hW0 hn hR
 go_enter Tryz.func39,Tryz.ntmps39
 go_upto_region 1 with fail
 rw[← HW.out]
 clear HW
 have r0:=fun (z:After W0)=>(z.cell A 0 R0.lA).trans R0.at0
 have r1:=fun (z:After W0)=>(z.cell S 0 R0.lS).trans R0.sC
 have is:=After.some W0
 clear hp
 refine wp_region_after_tail 6 (by kernel_rfl) (by kernel_rfl) ?_
 simp only[List.take_succ_cons,List.take_zero,List.drop_succ_cons,List.drop_zero]
 repeat (quiet_step ((go_at_call 40;exact calls_after (C0.out _))))
 refine wpQuiet_nil ?_
 intro W1 hw
 have hb1:Below W0.heap.size W0 W1:=by obtain⟨x,rfl⟩:=hw;exact x.below
 clear r0 r1 is hw C0
 have R1:=R0.on hb1
 have T1:=T0.on hb1
 have hs1:w.heap.size<W1.heap.size:=T1.lt
 have B1:Below w.heap.size w W1:=B0.trans (hb1.mono B0.size)
 have at0:=R1.at0
 have fA:=R1.fA
 have lA:=R1.lA
 have R2:=R1.set p
 have T2:=T1.set (p:=⟨A,0,none⟩) (by show A≠w.heap.size;omega) (.int .i64 (p:Int))
 have O2:Out (fun k=>k=A) w (W1.setCell ⟨A,0,none⟩ (.int .i64 (p:Int))):=(Out.of B1).trans (Out.set _ _ rfl)
 have e1:(j:Int)+(n:Int)=(p:Int):=by have:=HP.out;omega
 have hpi:(p:Int)≤9223372036854775807:=by omega
 have HF:=zH (And.intro R2 (And.intro T2 O2))
 clear R0 T0 B0 hb1 R1 T1 B1 R2 T2 O2
 go_upto_region 2 with fail
 obtain⟨U,hU⟩:∃ U,U=W1.setCell ⟨A,0,none⟩ (.int .i64 (p:Int)):=⟨_,rfl⟩
 rw[← hU] at HF
 rw[← hU]
 clear hU at0 fA lA e1
 have at0:=HF.out.1.at0
 have sC:=HF.out.1.sC
 have hAU:=HF.out.1.lA
 have hSU:=HF.out.1.lS
 have hpe:p=s.size:=by omega
 have z1:((p:Int) == (s.size:Int))=true:=by rw[beq_iff_eq];omega
 obtain⟨lt,c0,c1,c2,c3,fz⟩:=HF.out.2.1
 clear hpe hlt
 go_wp2_with fail
 refine bodyPost_ret (v:=.tuple #[.agg #[.int .i64 0,.int .i64 0,.int .i64 0,.string ⟨#[]⟩],.int .i64 0,.int .i64 0]) (by simp[results,Tryz.results39,go_sem, *]) rfl ⟨rfl,?_⟩
 exact HF.out.2.2.four (Nat.le_refl _) _ _ _ _
end Go.Proofs.YtapbglhjamddbaaGreatDoor
