/- A part of the proof. -/
import Derived.Test.YtapbglhjamddbaaGreatDoorLcE
import Derived.Test.YtapbglhjamddbaaGreatDoorHd
namespace Go.Proofs.YtapbglhjamddbaaGreatDoor
open Go.RowKit
set_option maxRecDepth 100000
set_option maxHeartbeats 8000000 in
theorem next_letter_err (A S K m:Nat) (s:ByteArray) (j:Nat) (w:World) (hR:RD w A S K m s j) (hj:j≤s.size) (hs:s.size≤2000) (p:Nat) (hp:p=j+((s.data.toList.drop j).takeWhile isBlank).length) (hlt:p<s.size) (b:UInt8) (hb:s.data.toList[p]?=some b) (hl:isLetter b=true) (er rel:Nat) (h1:one (s.data.toList.drop p)=.err er rel) :
  Calls Tryz.prog 39 #[.pointer (some ⟨A,0,none⟩),.pointer (some ⟨S,0,none⟩),.pointer (some ⟨K,0,none⟩)] w fun e w'=>NextIs A S K m s p (some (.err er rel)) e w'∧Out (fun k=>k=A) w w':=by
 have hsl:s.data.toList.length=s.size:=Array.length_toList
 have hps:p≤s.size:=by have:=takeWhile_le isBlank (s.data.toList.drop j);rw[List.length_drop,hsl] at this;omega
 have hjp:j≤p:=by omega
 obtain⟨W0,hW0⟩:∃ W,W=w.alloc (.cells #[.int .i64 0,.int .i64 0,.int .i64 0,.string ⟨#[]⟩] 55):=⟨_,rfl⟩
 have T0:TK W0 w.heap.size 0 0 0 ⟨#[]⟩:=by rw[hW0];exact TK.new w 0 0 0 ⟨#[]⟩ _
 have B0:Below w.heap.size w W0:=by rw[hW0];(repeat (first | exact ext_refl _ | assumption |(refine ext_alloc ?_ _) |(refine ext_drewN ?_ _) | refine ext_drew ?_ |(refine ext_set (by first |(simp;done) |(simp;omega)) _ ?_) |(refine ext_trans ?_ (by assumption))))
 have hs0:W0.heap.size=w.heap.size+1:=by rw[hW0];simp
 have R0:RD W0 A S K m s j:=hR.on B0
 have hAZ:A<w.heap.size:=hR.lA
 have HN6:=zH (And.intro hR.lA (And.intro hR.lS (And.intro hR.lK hR.lm)))
 have HW:=zH hW0
 have hjs:(j:Int)≤(s.size:Int):=by omega
 have hj0:(0:Int)≤(j:Int):=by omega
 have hys:(s.extract j s.size).size≤2000:=by rw[← show (s.extract j s.size).data.toList.length=(s.extract j s.size).size from Array.length_toList,rest_data,List.length_drop,hsl];omega
 obtain⟨n,hn⟩:∃ n,n=((s.data.toList.drop j).takeWhile isBlank).length:=⟨_,rfl⟩
 rw[← hn] at hp
 have C0:=zH (fun W=>(span_blank (s.extract j s.size) W hys).mono fun e w' (h:_∧_)=>(⟨by rw[h.1,rest_data,← hn],by rw[h.2];exact Below.refl _ _⟩:e=.returned (.int .i64 (n:Int))∧Below W.heap.size W w'))
 have HP:=zH hp
 have HN:=zH hn
 clear hW0 hn hR
 go_enter Tryz.func39,Tryz.ntmps39
 go_upto_region 1 with fail
 rw[← HW.out]
 clear HW
 have r0:=fun (z:After W0)=>(z.cell A 0 R0.lA).trans R0.at0
 have r1:=fun (z:After W0)=>(z.cell S 0 R0.lS).trans R0.sC
 have is:=After.some W0
 clear hp
 refine wp_region_after_tail 6 (by kernel_rfl) (by kernel_rfl) ?_
 simp only[List.take_succ_cons,List.take_zero,List.drop_succ_cons,List.drop_zero]
 repeat (quiet_step ((go_at_call 40;exact calls_after (C0.out _))))
 refine wpQuiet_nil ?_
 intro W1 hw
 have hb1:Below W0.heap.size W0 W1:=by obtain⟨x,rfl⟩:=hw;exact x.below
 clear r0 r1 is hw C0
 have R1:=R0.on hb1
 have T1:=T0.on hb1
 have hs1:w.heap.size<W1.heap.size:=T1.lt
 have B1:Below w.heap.size w W1:=B0.trans (hb1.mono B0.size)
 have at0:=R1.at0
 have fA:=R1.fA
 have lA:=R1.lA
 have R2:=R1.set p
 have T2:=T1.set (p:=⟨A,0,none⟩) (by show A≠w.heap.size;omega) (.int .i64 (p:Int))
 have O2:Out (fun k=>k=A) w (W1.setCell ⟨A,0,none⟩ (.int .i64 (p:Int))):=(Out.of B1).trans (Out.set _ _ rfl)
 have e1:(j:Int)+(n:Int)=(p:Int):=by have:=HP.out;omega
 have hpi:(p:Int)≤9223372036854775807:=by omega
 have HF:=zH (And.intro R2 (And.intro T2 O2))
 clear R0 T0 B0 hb1 R1 T1 B1 R2 T2 O2
 go_upto_region 2 with fail
 obtain⟨U,hU⟩:∃ U,U=W1.setCell ⟨A,0,none⟩ (.int .i64 (p:Int)):=⟨_,rfl⟩
 rw[← hU] at HF
 rw[← hU]
 clear hU at0 fA lA e1
 have at0:=HF.out.1.at0
 have sC:=HF.out.1.sC
 have hAU:=HF.out.1.lA
 have hSU:=HF.out.1.lS
 have z1:((p:Int) == (s.size:Int))=false:=by rw[beq_eq_false_iff_ne];omega
 have hpl:(p:Int)≤(s.size:Int):=by omega
 have hb0:(s.extract p s.size).data.toList[0]?=some b:=by rw[rest_data,List.getElem?_drop];exact hb
 go_upto_region 7 with fail
 have TV:=TK.new U 0 0 0 ⟨#[]⟩ 55
 have BV:Below U.heap.size U (U.alloc (.cells #[.int .i64 0,.int .i64 0,.int .i64 0,.string ⟨#[]⟩] 55)):=ext_alloc (ext_refl _) _
 obtain⟨V,hV⟩:∃ V,V=U.alloc (.cells #[.int .i64 0,.int .i64 0,.int .i64 0,.string ⟨#[]⟩] 55):=⟨_,rfl⟩
 rw[← hV] at TV BV
 rw[← hV]
 obtain⟨Y,hY⟩:∃ Y,Y=U.heap.size:=⟨_,rfl⟩
 have hZY:w.heap.size<Y:=by rw[hY];exact HF.out.2.1.lt
 have RV:=HF.out.1.on BV
 have TZ:=HF.out.2.1.on BV
 have OV:Out (fun k=>k=A) w V:=HF.out.2.2.trans (Out.of BV)
 rw[← hY] at TV
 rw[← hY]
 have HN5:=zH (show A<Y∧S<Y∧K<Y∧m<Y by have:=HN6.out;omega)
 have nYZ:Y≠w.heap.size:=by omega
 have nZY:w.heap.size≠Y:=by omega
 have nAY:A≠Y:=by omega
 have nYA:Y≠A:=by omega
 have nAZ:A≠w.heap.size:=by omega
 have nZA:w.heap.size≠A:=by omega
 have hd:s.data.toList.drop p=b :: s.data.toList.drop (p+1):=by
  obtain⟨h1,rfl⟩:=List.getElem?_eq_some_iff.1 hb
  exact List.drop_eq_getElem_cons h1
 have HG:=zH (And.intro RV (And.intro TZ (And.intro TV OV)))
 clear hV hY BV at0 sC hAU hSU TV RV TZ OV HF
 have at0:=HG.out.1.at0
 have sC:=HG.out.1.sC
 have hAV:=HG.out.1.lA
 have hSV:=HG.out.1.lS
 go_upto_region 8 with fail
 obtain⟨x,hx⟩:∃ x,x=s.extract p s.size:=⟨_,rfl⟩
 have hxd:x.data.toList=s.data.toList.drop p:=by rw[hx,rest_data]
 have hxs:x.size≤2000:=by rw[← show x.data.toList.length=x.size from Array.length_toList,hxd,List.length_drop,hsl];omega
 rw[← hx] at hb0
 rw[← hx]
 obtain⟨p4,p5⟩:=byt_data hb0
 have eb:=(byt_at x 0 p4).trans p5
 have p6:(0:Int)<(x.size:Int):=by omega
 clear p5 hx at0 sC
 have hone:one (s.data.toList.drop p)=oneWord (s.data.toList.drop p):=by rw[hd,one_cons,hl];rfl
 have CK:=zH (lword_any x m V HG.out.1.words hxs)
 rw[hxd,← hone] at CK
 have kC:=HG.out.1.kC
 have lK:=HG.out.1.lK
 clear hone
 rw[h1] at CK
 have her:=(one_rel h1).1
 have hrl:=(one_rel h1).2
 rw[List.length_drop,hsl] at hrl
 have hwr:IntKind.i64.wrap ((p:Int)+(rel:Int))=(p:Int)+(rel:Int):=by rw[IntKind.wrap_i64];omega
 have h5:((er:Int) == 0)=false:=by rw[beq_eq_false_iff_ne];rcases her with rfl | rfl <;> decide
 clear h1 her hd
 generalize s.extract j s.size=dead1
 generalize IntKind.i64.wrap ((j:Int)+(n:Int))=dead2
 clear hj hs hjp hs0 hjs hj0 hys HP HN hs1 z1 hb hb0
 go_wp2_with fail
 refine (lletter_any b _ rfl _).mono ?_
 rintro e w9 ⟨rfl,hw9⟩
 rw[hw9]
 clear hw9
 rw[hl]
 go_wp2_with fail
 refine (CK.out).mono ?_
 rintro e w2 ⟨rfl,hb2⟩
 have HX:=zH (And.intro (HG.out.1.on hb2) (And.intro (HG.out.2.1.on hb2) (And.intro (HG.out.2.2.1.on hb2) (HG.out.2.2.2.trans (Out.of hb2)))))
 have fY:=HX.out.2.2.1.fz
 have y0:=HX.out.2.2.1.c0
 have y1:=HX.out.2.2.1.c1
 have y2:=HX.out.2.2.1.c2
 have y3:=HX.out.2.2.1.c3
 have lY:=HX.out.2.2.1.lt
 clear hb2 CK
 go_upto_region 19 with fail
 obtain⟨X,hX⟩:∃ X,X=((((w2.setCell ⟨Y,0,none⟩ (.int .i64 0)).setCell ⟨Y,1,none⟩ (.int .i64 0)).setCell ⟨Y,2,none⟩ (.int .i64 0)).setCell ⟨Y,3,none⟩ (.string ⟨#[]⟩)):=⟨_,rfl⟩
 have RX:RD X A S K m s p:=by rw[hX];exact (((HX.out.1.setO HN5.out 0 _).setO HN5.out 1 _).setO HN5.out 2 _).setO HN5.out 3 _
 have TX:TK X w.heap.size 0 0 0 ⟨#[]⟩:=by rw[hX];exact (((HX.out.2.1.set (p:=⟨Y,0,none⟩) nYZ _).set (p:=⟨Y,1,none⟩) nYZ _).set (p:=⟨Y,2,none⟩) nYZ _).set (p:=⟨Y,3,none⟩) nYZ _
 have OX:Out (fun k=>k=A) w X:=by rw[hX];exact HX.out.2.2.2.four (Nat.le_of_lt hZY) _ _ _ _
 rw[← hX]
 clear hX HX fY y0 y1 y2 y3 lY
 obtain⟨lt,c0,c1,c2,c3,fz⟩:=TX
 have at0:=RX.at0
 have lA:=RX.lA
 have OQ:=zH OX
 clear RX OX
 go_region_held3 (fun W'=>W'.cell? ⟨A,0,none⟩=some (.int .i64 (p:Int))) (go_keep) (fail)
 all_goals go_wp2_with fail
 all_goals
  refine bodyPost_ret (v:=.tuple #[.agg #[.int .i64 0,.int .i64 0,.int .i64 0,.string ⟨#[]⟩],.int .i64 (er:Int),.int .i64 ((p:Int)+(rel:Int))]) (by simp[results,Tryz.results39,go_sem,c0,c1,c2,c3]) rfl ⟨rfl,?_⟩
  first | exact (OQ.out.four (Nat.le_refl _) _ _ _ _).trans (Out.drew _) | exact (OQ.out.trans (Out.drew _)).four (Nat.le_refl _) _ _ _ _ | exact OQ.out.four (Nat.le_refl _) _ _ _ _
set_option maxHeartbeats 8000000 in
theorem next_letter_tok (A S K m:Nat) (s:ByteArray) (j:Nat) (w:World) (hR:RD w A S K m s j) (hj:j≤s.size) (hs:s.size≤2000) (p:Nat) (hp:p=j+((s.data.toList.drop j).takeWhile isBlank).length) (hlt:p<s.size) (b:UInt8) (hb:s.data.toList[p]?=some b) (hl:isLetter b=true) (kd n':Nat) (st:Bs) (used:Nat) (h1:one (s.data.toList.drop p)=.tok kd n' st used) :
  Calls Tryz.prog 39 #[.pointer (some ⟨A,0,none⟩),.pointer (some ⟨S,0,none⟩),.pointer (some ⟨K,0,none⟩)] w fun e w'=>NextIs A S K m s p (some (.tok kd n' st used)) e w'∧Out (fun k=>k=A) w w':=by
 have hsl:s.data.toList.length=s.size:=Array.length_toList
 have hps:p≤s.size:=by have:=takeWhile_le isBlank (s.data.toList.drop j);rw[List.length_drop,hsl] at this;omega
 have hjp:j≤p:=by omega
 obtain⟨W0,hW0⟩:∃ W,W=w.alloc (.cells #[.int .i64 0,.int .i64 0,.int .i64 0,.string ⟨#[]⟩] 55):=⟨_,rfl⟩
 have T0:TK W0 w.heap.size 0 0 0 ⟨#[]⟩:=by rw[hW0];exact TK.new w 0 0 0 ⟨#[]⟩ _
 have B0:Below w.heap.size w W0:=by rw[hW0];(repeat (first | exact ext_refl _ | assumption |(refine ext_alloc ?_ _) |(refine ext_drewN ?_ _) | refine ext_drew ?_ |(refine ext_set (by first |(simp;done) |(simp;omega)) _ ?_) |(refine ext_trans ?_ (by assumption))))
 have hs0:W0.heap.size=w.heap.size+1:=by rw[hW0];simp
 have R0:RD W0 A S K m s j:=hR.on B0
 have hAZ:A<w.heap.size:=hR.lA
 have HN6:=zH (And.intro hR.lA (And.intro hR.lS (And.intro hR.lK hR.lm)))
 have HW:=zH hW0
 have hjs:(j:Int)≤(s.size:Int):=by omega
 have hj0:(0:Int)≤(j:Int):=by omega
 have hys:(s.extract j s.size).size≤2000:=by rw[← show (s.extract j s.size).data.toList.length=(s.extract j s.size).size from Array.length_toList,rest_data,List.length_drop,hsl];omega
 obtain⟨n,hn⟩:∃ n,n=((s.data.toList.drop j).takeWhile isBlank).length:=⟨_,rfl⟩
 rw[← hn] at hp
 have C0:=zH (fun W=>(span_blank (s.extract j s.size) W hys).mono fun e w' (h:_∧_)=>(⟨by rw[h.1,rest_data,← hn],by rw[h.2];exact Below.refl _ _⟩:e=.returned (.int .i64 (n:Int))∧Below W.heap.size W w'))
 have HP:=zH hp
 have HN:=zH hn
 clear hW0 hn hR
 go_enter Tryz.func39,Tryz.ntmps39
 go_upto_region 1 with fail
 rw[← HW.out]
 clear HW
 have r0:=fun (z:After W0)=>(z.cell A 0 R0.lA).trans R0.at0
 have r1:=fun (z:After W0)=>(z.cell S 0 R0.lS).trans R0.sC
 have is:=After.some W0
 clear hp
 refine wp_region_after_tail 6 (by kernel_rfl) (by kernel_rfl) ?_
 simp only[List.take_succ_cons,List.take_zero,List.drop_succ_cons,List.drop_zero]
 repeat (quiet_step ((go_at_call 40;exact calls_after (C0.out _))))
 refine wpQuiet_nil ?_
 intro W1 hw
 have hb1:Below W0.heap.size W0 W1:=by obtain⟨x,rfl⟩:=hw;exact x.below
 clear r0 r1 is hw C0
 have R1:=R0.on hb1
 have T1:=T0.on hb1
 have hs1:w.heap.size<W1.heap.size:=T1.lt
 have B1:Below w.heap.size w W1:=B0.trans (hb1.mono B0.size)
 have at0:=R1.at0
 have fA:=R1.fA
 have lA:=R1.lA
 have R2:=R1.set p
 have T2:=T1.set (p:=⟨A,0,none⟩) (by show A≠w.heap.size;omega) (.int .i64 (p:Int))
 have O2:Out (fun k=>k=A) w (W1.setCell ⟨A,0,none⟩ (.int .i64 (p:Int))):=(Out.of B1).trans (Out.set _ _ rfl)
 have e1:(j:Int)+(n:Int)=(p:Int):=by have:=HP.out;omega
 have hpi:(p:Int)≤9223372036854775807:=by omega
 have HF:=zH (And.intro R2 (And.intro T2 O2))
 clear R0 T0 B0 hb1 R1 T1 B1 R2 T2 O2
 go_upto_region 2 with fail
 obtain⟨U,hU⟩:∃ U,U=W1.setCell ⟨A,0,none⟩ (.int .i64 (p:Int)):=⟨_,rfl⟩
 rw[← hU] at HF
 rw[← hU]
 clear hU at0 fA lA e1
 have at0:=HF.out.1.at0
 have sC:=HF.out.1.sC
 have hAU:=HF.out.1.lA
 have hSU:=HF.out.1.lS
 have z1:((p:Int) == (s.size:Int))=false:=by rw[beq_eq_false_iff_ne];omega
 have hpl:(p:Int)≤(s.size:Int):=by omega
 have hb0:(s.extract p s.size).data.toList[0]?=some b:=by rw[rest_data,List.getElem?_drop];exact hb
 go_upto_region 7 with fail
 have TV:=TK.new U 0 0 0 ⟨#[]⟩ 55
 have BV:Below U.heap.size U (U.alloc (.cells #[.int .i64 0,.int .i64 0,.int .i64 0,.string ⟨#[]⟩] 55)):=ext_alloc (ext_refl _) _
 obtain⟨V,hV⟩:∃ V,V=U.alloc (.cells #[.int .i64 0,.int .i64 0,.int .i64 0,.string ⟨#[]⟩] 55):=⟨_,rfl⟩
 rw[← hV] at TV BV
 rw[← hV]
 obtain⟨Y,hY⟩:∃ Y,Y=U.heap.size:=⟨_,rfl⟩
 have hZY:w.heap.size<Y:=by rw[hY];exact HF.out.2.1.lt
 have RV:=HF.out.1.on BV
 have TZ:=HF.out.2.1.on BV
 have OV:Out (fun k=>k=A) w V:=HF.out.2.2.trans (Out.of BV)
 rw[← hY] at TV
 rw[← hY]
 have HN5:=zH (show A<Y∧S<Y∧K<Y∧m<Y by have:=HN6.out;omega)
 have nYZ:Y≠w.heap.size:=by omega
 have nZY:w.heap.size≠Y:=by omega
 have nAY:A≠Y:=by omega
 have nYA:Y≠A:=by omega
 have nAZ:A≠w.heap.size:=by omega
 have nZA:w.heap.size≠A:=by omega
 have hd:s.data.toList.drop p=b :: s.data.toList.drop (p+1):=by
  obtain⟨h1,rfl⟩:=List.getElem?_eq_some_iff.1 hb
  exact List.drop_eq_getElem_cons h1
 have HG:=zH (And.intro RV (And.intro TZ (And.intro TV OV)))
 clear hV hY BV at0 sC hAU hSU TV RV TZ OV HF
 have at0:=HG.out.1.at0
 have sC:=HG.out.1.sC
 have hAV:=HG.out.1.lA
 have hSV:=HG.out.1.lS
 go_upto_region 8 with fail
 obtain⟨x,hx⟩:∃ x,x=s.extract p s.size:=⟨_,rfl⟩
 have hxd:x.data.toList=s.data.toList.drop p:=by rw[hx,rest_data]
 have hxs:x.size≤2000:=by rw[← show x.data.toList.length=x.size from Array.length_toList,hxd,List.length_drop,hsl];omega
 rw[← hx] at hb0
 rw[← hx]
 obtain⟨p4,p5⟩:=byt_data hb0
 have eb:=(byt_at x 0 p4).trans p5
 have p6:(0:Int)<(x.size:Int):=by omega
 clear p5 hx at0 sC
 have hone:one (s.data.toList.drop p)=oneWord (s.data.toList.drop p):=by rw[hd,one_cons,hl];rfl
 have CK:=zH (lword_any x m V HG.out.1.words hxs)
 rw[hxd,← hone] at CK
 have kC:=HG.out.1.kC
 have lK:=HG.out.1.lK
 clear hone
 rw[h1] at CK
 have hrl:=(one_used h1).2
 rw[List.length_drop,hsl] at hrl
 have hwr:IntKind.i64.wrap ((p:Int)+(used:Int))=(p:Int)+(used:Int):=by rw[IntKind.wrap_i64];omega
 clear h1 hd
 generalize s.extract j s.size=dead1
 generalize IntKind.i64.wrap ((j:Int)+(n:Int))=dead2
 clear hj hs hjp hs0 hjs hj0 hys HP HN hs1 z1 hb hb0
 go_wp2_with fail
 refine (lletter_any b _ rfl _).mono ?_
 rintro e w9 ⟨rfl,hw9⟩
 rw[hw9]
 clear hw9
 rw[hl]
 go_wp2_with fail
 refine (CK.out).mono ?_
 rintro e w2 ⟨rfl,hb2⟩
 have HX:=zH (And.intro (HG.out.1.on hb2) (And.intro (HG.out.2.1.on hb2) (And.intro (HG.out.2.2.1.on hb2) (HG.out.2.2.2.trans (Out.of hb2)))))
 have fY:=HX.out.2.2.1.fz
 have y0:=HX.out.2.2.1.c0
 have y1:=HX.out.2.2.1.c1
 have y2:=HX.out.2.2.1.c2
 have y3:=HX.out.2.2.1.c3
 have lY:=HX.out.2.2.1.lt
 clear hb2 CK
 go_upto_region 20 with fail
 obtain⟨X,hX⟩:∃ X,X=((((w2.setCell ⟨Y,0,none⟩ (.int .i64 (kd:Int))).setCell ⟨Y,1,none⟩ (.int .i64 (n':Int))).setCell ⟨Y,2,none⟩ (.int .i64 0)).setCell ⟨Y,3,none⟩ (.string (bsB st))):=⟨_,rfl⟩
 have RX:RD X A S K m s p:=by rw[hX];exact (((HX.out.1.setO HN5.out 0 _).setO HN5.out 1 _).setO HN5.out 2 _).setO HN5.out 3 _
 have TX:TK X w.heap.size 0 0 0 ⟨#[]⟩:=by rw[hX];exact (((HX.out.2.1.set (p:=⟨Y,0,none⟩) nYZ _).set (p:=⟨Y,1,none⟩) nYZ _).set (p:=⟨Y,2,none⟩) nYZ _).set (p:=⟨Y,3,none⟩) nYZ _
 have YX:TK X Y kd n' 0 (bsB st):=by rw[hX];exact HX.out.2.2.1.all _ _ _ _
 have OX:Out (fun k=>k=A) w X:=by rw[hX];exact HX.out.2.2.2.four (Nat.le_of_lt hZY) _ _ _ _
 rw[← hX]
 clear hX HX fY y0 y1 y2 y3 lY
 have HZ:=zH (And.intro RX (And.intro OX TX))
 obtain⟨lt,c0,c1,c2,c3,fz⟩:=TX
 obtain⟨lY,y0,y1,y2,y3,fY⟩:=YX
 have at0:=RX.at0
 have fA:=RX.fA
 have lA:=RX.lA
 clear RX OX
 go_wp2_with fail
 clear lt c0 c1 c2 c3 fz lY y0 y1 y2 y3 fY at0 fA lA
 obtain⟨T,hT⟩:∃ T,T=((((((X.setCell ⟨Y,2,none⟩ (.int .i64 (p:Int))).setCell ⟨A,0,none⟩ (.int .i64 ((p:Int)+(used:Int)))).setCell ⟨w.heap.size,0,none⟩ (.int .i64 (kd:Int))).setCell ⟨w.heap.size,1,none⟩ (.int .i64 (n':Int))).setCell ⟨w.heap.size,2,none⟩ (.int .i64 (p:Int))).setCell ⟨w.heap.size,3,none⟩ (.string (bsB st))):=⟨_,rfl⟩
 have OT:Out (fun k=>k=A) w T:=by rw[hT];exact (((HZ.out.2.1.setNew (p:=⟨Y,2,none⟩) (Nat.le_of_lt hZY) _).trans (Out.set _ _ rfl))).four (Nat.le_refl _) _ _ _ _
 have RT:RD T A S K m s (p+used):=by rw[hT];exact ((((((HZ.out.1.setO HN5.out 2 _).setA (i:=p+used) (by omega)).setO HN6.out 0 _).setO HN6.out 1 _).setO HN6.out 2 _).setO HN6.out 3 _)
 have TT:TK T w.heap.size kd n' p (bsB st):=by rw[hT];exact ((HZ.out.2.2.set (p:=⟨Y,2,none⟩) nYZ _).set (p:=⟨A,0,none⟩) nAZ _).all _ _ _ _
 obtain⟨-,t0,t1,t2,t3,-⟩:=TT
 rw[← hT]
 clear hT HZ
 refine bodyPost_ret (v:=.tuple #[.agg #[.int .i64 (kd:Int),.int .i64 (n':Int),.int .i64 (p:Int),.string (bsB st)],.int .i64 0,.int .i64 0]) (by simp[results,Tryz.results39,go_sem,t0,t1,t2,t3]) rfl ⟨⟨rfl,RT⟩,OT⟩
open Go.RowKit
set_option maxRecDepth 100000
set_option maxHeartbeats 8000000 in
theorem next_digit_err (A S K m:Nat) (s:ByteArray) (j:Nat) (w:World) (hR:RD w A S K m s j) (hj:j≤s.size) (hs:s.size≤2000) (p:Nat) (hp:p=j+((s.data.toList.drop j).takeWhile isBlank).length) (hlt:p<s.size) (b:UInt8) (hb:s.data.toList[p]?=some b) (hl:isLetter b=false) (hdg:isDigit b=true) (er rel:Nat) (h1:one (s.data.toList.drop p)=.err er rel) :
  Calls Tryz.prog 39 #[.pointer (some ⟨A,0,none⟩),.pointer (some ⟨S,0,none⟩),.pointer (some ⟨K,0,none⟩)] w fun e w'=>NextIs A S K m s p (some (.err er rel)) e w'∧Out (fun k=>k=A) w w':=by
 have hsl:s.data.toList.length=s.size:=Array.length_toList
 have hps:p≤s.size:=by have:=takeWhile_le isBlank (s.data.toList.drop j);rw[List.length_drop,hsl] at this;omega
 have hjp:j≤p:=by omega
 obtain⟨W0,hW0⟩:∃ W,W=w.alloc (.cells #[.int .i64 0,.int .i64 0,.int .i64 0,.string ⟨#[]⟩] 55):=⟨_,rfl⟩
 have T0:TK W0 w.heap.size 0 0 0 ⟨#[]⟩:=by rw[hW0];exact TK.new w 0 0 0 ⟨#[]⟩ _
 have B0:Below w.heap.size w W0:=by rw[hW0];(repeat (first | exact ext_refl _ | assumption |(refine ext_alloc ?_ _) |(refine ext_drewN ?_ _) | refine ext_drew ?_ |(refine ext_set (by first |(simp;done) |(simp;omega)) _ ?_) |(refine ext_trans ?_ (by assumption))))
 have hs0:W0.heap.size=w.heap.size+1:=by rw[hW0];simp
 have R0:RD W0 A S K m s j:=hR.on B0
 have hAZ:A<w.heap.size:=hR.lA
 have HN6:=zH (And.intro hR.lA (And.intro hR.lS (And.intro hR.lK hR.lm)))
 have HW:=zH hW0
 have hjs:(j:Int)≤(s.size:Int):=by omega
 have hj0:(0:Int)≤(j:Int):=by omega
 have hys:(s.extract j s.size).size≤2000:=by rw[← show (s.extract j s.size).data.toList.length=(s.extract j s.size).size from Array.length_toList,rest_data,List.length_drop,hsl];omega
 obtain⟨n,hn⟩:∃ n,n=((s.data.toList.drop j).takeWhile isBlank).length:=⟨_,rfl⟩
 rw[← hn] at hp
 have C0:=zH (fun W=>(span_blank (s.extract j s.size) W hys).mono fun e w' (h:_∧_)=>(⟨by rw[h.1,rest_data,← hn],by rw[h.2];exact Below.refl _ _⟩:e=.returned (.int .i64 (n:Int))∧Below W.heap.size W w'))
 have HP:=zH hp
 have HN:=zH hn
 clear hW0 hn hR
 go_enter Tryz.func39,Tryz.ntmps39
 go_upto_region 1 with fail
 rw[← HW.out]
 clear HW
 have r0:=fun (z:After W0)=>(z.cell A 0 R0.lA).trans R0.at0
 have r1:=fun (z:After W0)=>(z.cell S 0 R0.lS).trans R0.sC
 have is:=After.some W0
 clear hp
 refine wp_region_after_tail 6 (by kernel_rfl) (by kernel_rfl) ?_
 simp only[List.take_succ_cons,List.take_zero,List.drop_succ_cons,List.drop_zero]
 repeat (quiet_step ((go_at_call 40;exact calls_after (C0.out _))))
 refine wpQuiet_nil ?_
 intro W1 hw
 have hb1:Below W0.heap.size W0 W1:=by obtain⟨x,rfl⟩:=hw;exact x.below
 clear r0 r1 is hw C0
 have R1:=R0.on hb1
 have T1:=T0.on hb1
 have hs1:w.heap.size<W1.heap.size:=T1.lt
 have B1:Below w.heap.size w W1:=B0.trans (hb1.mono B0.size)
 have at0:=R1.at0
 have fA:=R1.fA
 have lA:=R1.lA
 have R2:=R1.set p
 have T2:=T1.set (p:=⟨A,0,none⟩) (by show A≠w.heap.size;omega) (.int .i64 (p:Int))
 have O2:Out (fun k=>k=A) w (W1.setCell ⟨A,0,none⟩ (.int .i64 (p:Int))):=(Out.of B1).trans (Out.set _ _ rfl)
 have e1:(j:Int)+(n:Int)=(p:Int):=by have:=HP.out;omega
 have hpi:(p:Int)≤9223372036854775807:=by omega
 have HF:=zH (And.intro R2 (And.intro T2 O2))
 clear R0 T0 B0 hb1 R1 T1 B1 R2 T2 O2
 go_upto_region 2 with fail
 obtain⟨U,hU⟩:∃ U,U=W1.setCell ⟨A,0,none⟩ (.int .i64 (p:Int)):=⟨_,rfl⟩
 rw[← hU] at HF
 rw[← hU]
 clear hU at0 fA lA e1
 have at0:=HF.out.1.at0
 have sC:=HF.out.1.sC
 have hAU:=HF.out.1.lA
 have hSU:=HF.out.1.lS
 have z1:((p:Int) == (s.size:Int))=false:=by rw[beq_eq_false_iff_ne];omega
 have hpl:(p:Int)≤(s.size:Int):=by omega
 have hb0:(s.extract p s.size).data.toList[0]?=some b:=by rw[rest_data,List.getElem?_drop];exact hb
 go_upto_region 7 with fail
 have TV:=TK.new U 0 0 0 ⟨#[]⟩ 55
 have BV:Below U.heap.size U (U.alloc (.cells #[.int .i64 0,.int .i64 0,.int .i64 0,.string ⟨#[]⟩] 55)):=ext_alloc (ext_refl _) _
 obtain⟨V,hV⟩:∃ V,V=U.alloc (.cells #[.int .i64 0,.int .i64 0,.int .i64 0,.string ⟨#[]⟩] 55):=⟨_,rfl⟩
 rw[← hV] at TV BV
 rw[← hV]
 obtain⟨Y,hY⟩:∃ Y,Y=U.heap.size:=⟨_,rfl⟩
 have hZY:w.heap.size<Y:=by rw[hY];exact HF.out.2.1.lt
 have RV:=HF.out.1.on BV
 have TZ:=HF.out.2.1.on BV
 have OV:Out (fun k=>k=A) w V:=HF.out.2.2.trans (Out.of BV)
 rw[← hY] at TV
 rw[← hY]
 have HN5:=zH (show A<Y∧S<Y∧K<Y∧m<Y by have:=HN6.out;omega)
 have nYZ:Y≠w.heap.size:=by omega
 have nZY:w.heap.size≠Y:=by omega
 have nAY:A≠Y:=by omega
 have nYA:Y≠A:=by omega
 have nAZ:A≠w.heap.size:=by omega
 have nZA:w.heap.size≠A:=by omega
 have hd:s.data.toList.drop p=b :: s.data.toList.drop (p+1):=by
  obtain⟨h1,rfl⟩:=List.getElem?_eq_some_iff.1 hb
  exact List.drop_eq_getElem_cons h1
 have HG:=zH (And.intro RV (And.intro TZ (And.intro TV OV)))
 clear hV hY BV at0 sC hAU hSU TV RV TZ OV HF
 have at0:=HG.out.1.at0
 have sC:=HG.out.1.sC
 have hAV:=HG.out.1.lA
 have hSV:=HG.out.1.lS
 go_upto_region 8 with fail
 obtain⟨x,hx⟩:∃ x,x=s.extract p s.size:=⟨_,rfl⟩
 have hxd:x.data.toList=s.data.toList.drop p:=by rw[hx,rest_data]
 have hxs:x.size≤2000:=by rw[← show x.data.toList.length=x.size from Array.length_toList,hxd,List.length_drop,hsl];omega
 rw[← hx] at hb0
 rw[← hx]
 obtain⟨p4,p5⟩:=byt_data hb0
 have eb:=(byt_at x 0 p4).trans p5
 have p6:(0:Int)<(x.size:Int):=by omega
 clear p5 hx at0 sC
 have hone:one (s.data.toList.drop p)=oneNum (s.data.toList.drop p):=by rw[hd,one_cons,hl,hdg];rfl
 have CK:=zH (lnumber_any x V HG.out.1.vars hxs b hb0 hdg)
 rw[hxd,← hone] at CK
 clear hone
 rw[h1] at CK
 have her:=(one_rel h1).1
 have hrl:=(one_rel h1).2
 rw[List.length_drop,hsl] at hrl
 have hwr:IntKind.i64.wrap ((p:Int)+(rel:Int))=(p:Int)+(rel:Int):=by rw[IntKind.wrap_i64];omega
 have h5:((er:Int) == 0)=false:=by rw[beq_eq_false_iff_ne];rcases her with rfl | rfl <;> decide
 clear h1 her hd
 generalize s.extract j s.size=dead1
 generalize IntKind.i64.wrap ((j:Int)+(n:Int))=dead2
 clear hj hs hjp hs0 hjs hj0 hys HP HN hs1 z1 hb hb0
 go_wp2_with fail
 refine (lletter_any b _ rfl _).mono ?_
 rintro e w9 ⟨rfl,hw9⟩
 rw[hw9]
 clear hw9
 rw[hl]
 go_wp2_with fail
 refine (ldigit_any b _ rfl _).mono ?_
 rintro e w9 ⟨rfl,hw9⟩
 rw[hw9]
 clear hw9
 rw[hdg]
 go_wp2_with fail
 refine (CK.out).mono ?_
 rintro e w2 ⟨rfl,hb2⟩
 have HX:=zH (And.intro (HG.out.1.on hb2) (And.intro (HG.out.2.1.on hb2) (And.intro (HG.out.2.2.1.on hb2) (HG.out.2.2.2.trans (Out.of hb2)))))
 have fY:=HX.out.2.2.1.fz
 have y0:=HX.out.2.2.1.c0
 have y1:=HX.out.2.2.1.c1
 have y2:=HX.out.2.2.1.c2
 have y3:=HX.out.2.2.1.c3
 have lY:=HX.out.2.2.1.lt
 clear hb2 CK
 go_upto_region 19 with fail
 obtain⟨X,hX⟩:∃ X,X=((((w2.setCell ⟨Y,0,none⟩ (.int .i64 0)).setCell ⟨Y,1,none⟩ (.int .i64 0)).setCell ⟨Y,2,none⟩ (.int .i64 0)).setCell ⟨Y,3,none⟩ (.string ⟨#[]⟩)):=⟨_,rfl⟩
 have RX:RD X A S K m s p:=by rw[hX];exact (((HX.out.1.setO HN5.out 0 _).setO HN5.out 1 _).setO HN5.out 2 _).setO HN5.out 3 _
 have TX:TK X w.heap.size 0 0 0 ⟨#[]⟩:=by rw[hX];exact (((HX.out.2.1.set (p:=⟨Y,0,none⟩) nYZ _).set (p:=⟨Y,1,none⟩) nYZ _).set (p:=⟨Y,2,none⟩) nYZ _).set (p:=⟨Y,3,none⟩) nYZ _
 have OX:Out (fun k=>k=A) w X:=by rw[hX];exact HX.out.2.2.2.four (Nat.le_of_lt hZY) _ _ _ _
 rw[← hX]
 clear hX HX fY y0 y1 y2 y3 lY
 obtain⟨lt,c0,c1,c2,c3,fz⟩:=TX
 have at0:=RX.at0
 have lA:=RX.lA
 have OQ:=zH OX
 clear RX OX
 go_region_held3 (fun W'=>W'.cell? ⟨A,0,none⟩=some (.int .i64 (p:Int))) (go_keep) (fail)
 all_goals go_wp2_with fail
 all_goals
  refine bodyPost_ret (v:=.tuple #[.agg #[.int .i64 0,.int .i64 0,.int .i64 0,.string ⟨#[]⟩],.int .i64 (er:Int),.int .i64 ((p:Int)+(rel:Int))]) (by simp[results,Tryz.results39,go_sem,c0,c1,c2,c3]) rfl ⟨rfl,?_⟩
  first | exact (OQ.out.four (Nat.le_refl _) _ _ _ _).trans (Out.drew _) | exact (OQ.out.trans (Out.drew _)).four (Nat.le_refl _) _ _ _ _ | exact OQ.out.four (Nat.le_refl _) _ _ _ _
set_option maxHeartbeats 8000000 in
theorem next_digit_tok (A S K m:Nat) (s:ByteArray) (j:Nat) (w:World) (hR:RD w A S K m s j) (hj:j≤s.size) (hs:s.size≤2000) (p:Nat) (hp:p=j+((s.data.toList.drop j).takeWhile isBlank).length) (hlt:p<s.size) (b:UInt8) (hb:s.data.toList[p]?=some b) (hl:isLetter b=false) (hdg:isDigit b=true) (kd n':Nat) (st:Bs) (used:Nat) (h1:one (s.data.toList.drop p)=.tok kd n' st used) :
  Calls Tryz.prog 39 #[.pointer (some ⟨A,0,none⟩),.pointer (some ⟨S,0,none⟩),.pointer (some ⟨K,0,none⟩)] w fun e w'=>NextIs A S K m s p (some (.tok kd n' st used)) e w'∧Out (fun k=>k=A) w w':=by
 have hsl:s.data.toList.length=s.size:=Array.length_toList
 have hps:p≤s.size:=by have:=takeWhile_le isBlank (s.data.toList.drop j);rw[List.length_drop,hsl] at this;omega
 have hjp:j≤p:=by omega
 obtain⟨W0,hW0⟩:∃ W,W=w.alloc (.cells #[.int .i64 0,.int .i64 0,.int .i64 0,.string ⟨#[]⟩] 55):=⟨_,rfl⟩
 have T0:TK W0 w.heap.size 0 0 0 ⟨#[]⟩:=by rw[hW0];exact TK.new w 0 0 0 ⟨#[]⟩ _
 have B0:Below w.heap.size w W0:=by rw[hW0];(repeat (first | exact ext_refl _ | assumption |(refine ext_alloc ?_ _) |(refine ext_drewN ?_ _) | refine ext_drew ?_ |(refine ext_set (by first |(simp;done) |(simp;omega)) _ ?_) |(refine ext_trans ?_ (by assumption))))
 have hs0:W0.heap.size=w.heap.size+1:=by rw[hW0];simp
 have R0:RD W0 A S K m s j:=hR.on B0
 have hAZ:A<w.heap.size:=hR.lA
 have HN6:=zH (And.intro hR.lA (And.intro hR.lS (And.intro hR.lK hR.lm)))
 have HW:=zH hW0
 have hjs:(j:Int)≤(s.size:Int):=by omega
 have hj0:(0:Int)≤(j:Int):=by omega
 have hys:(s.extract j s.size).size≤2000:=by rw[← show (s.extract j s.size).data.toList.length=(s.extract j s.size).size from Array.length_toList,rest_data,List.length_drop,hsl];omega
 obtain⟨n,hn⟩:∃ n,n=((s.data.toList.drop j).takeWhile isBlank).length:=⟨_,rfl⟩
 rw[← hn] at hp
 have C0:=zH (fun W=>(span_blank (s.extract j s.size) W hys).mono fun e w' (h:_∧_)=>(⟨by rw[h.1,rest_data,← hn],by rw[h.2];exact Below.refl _ _⟩:e=.returned (.int .i64 (n:Int))∧Below W.heap.size W w'))
 have HP:=zH hp
 have HN:=zH hn
 clear hW0 hn hR
 go_enter Tryz.func39,Tryz.ntmps39
 go_upto_region 1 with fail
 rw[← HW.out]
 clear HW
 have r0:=fun (z:After W0)=>(z.cell A 0 R0.lA).trans R0.at0
 have r1:=fun (z:After W0)=>(z.cell S 0 R0.lS).trans R0.sC
 have is:=After.some W0
 clear hp
 refine wp_region_after_tail 6 (by kernel_rfl) (by kernel_rfl) ?_
 simp only[List.take_succ_cons,List.take_zero,List.drop_succ_cons,List.drop_zero]
 repeat (quiet_step ((go_at_call 40;exact calls_after (C0.out _))))
 refine wpQuiet_nil ?_
 intro W1 hw
 have hb1:Below W0.heap.size W0 W1:=by obtain⟨x,rfl⟩:=hw;exact x.below
 clear r0 r1 is hw C0
 have R1:=R0.on hb1
 have T1:=T0.on hb1
 have hs1:w.heap.size<W1.heap.size:=T1.lt
 have B1:Below w.heap.size w W1:=B0.trans (hb1.mono B0.size)
 have at0:=R1.at0
 have fA:=R1.fA
 have lA:=R1.lA
 have R2:=R1.set p
 have T2:=T1.set (p:=⟨A,0,none⟩) (by show A≠w.heap.size;omega) (.int .i64 (p:Int))
 have O2:Out (fun k=>k=A) w (W1.setCell ⟨A,0,none⟩ (.int .i64 (p:Int))):=(Out.of B1).trans (Out.set _ _ rfl)
 have e1:(j:Int)+(n:Int)=(p:Int):=by have:=HP.out;omega
 have hpi:(p:Int)≤9223372036854775807:=by omega
 have HF:=zH (And.intro R2 (And.intro T2 O2))
 clear R0 T0 B0 hb1 R1 T1 B1 R2 T2 O2
 go_upto_region 2 with fail
 obtain⟨U,hU⟩:∃ U,U=W1.setCell ⟨A,0,none⟩ (.int .i64 (p:Int)):=⟨_,rfl⟩
 rw[← hU] at HF
 rw[← hU]
 clear hU at0 fA lA e1
 have at0:=HF.out.1.at0
 have sC:=HF.out.1.sC
 have hAU:=HF.out.1.lA
 have hSU:=HF.out.1.lS
 have z1:((p:Int) == (s.size:Int))=false:=by rw[beq_eq_false_iff_ne];omega
 have hpl:(p:Int)≤(s.size:Int):=by omega
 have hb0:(s.extract p s.size).data.toList[0]?=some b:=by rw[rest_data,List.getElem?_drop];exact hb
 go_upto_region 7 with fail
 have TV:=TK.new U 0 0 0 ⟨#[]⟩ 55
 have BV:Below U.heap.size U (U.alloc (.cells #[.int .i64 0,.int .i64 0,.int .i64 0,.string ⟨#[]⟩] 55)):=ext_alloc (ext_refl _) _
 obtain⟨V,hV⟩:∃ V,V=U.alloc (.cells #[.int .i64 0,.int .i64 0,.int .i64 0,.string ⟨#[]⟩] 55):=⟨_,rfl⟩
 rw[← hV] at TV BV
 rw[← hV]
 obtain⟨Y,hY⟩:∃ Y,Y=U.heap.size:=⟨_,rfl⟩
 have hZY:w.heap.size<Y:=by rw[hY];exact HF.out.2.1.lt
 have RV:=HF.out.1.on BV
 have TZ:=HF.out.2.1.on BV
 have OV:Out (fun k=>k=A) w V:=HF.out.2.2.trans (Out.of BV)
 rw[← hY] at TV
 rw[← hY]
 have HN5:=zH (show A<Y∧S<Y∧K<Y∧m<Y by have:=HN6.out;omega)
 have nYZ:Y≠w.heap.size:=by omega
 have nZY:w.heap.size≠Y:=by omega
 have nAY:A≠Y:=by omega
 have nYA:Y≠A:=by omega
 have nAZ:A≠w.heap.size:=by omega
 have nZA:w.heap.size≠A:=by omega
 have hd:s.data.toList.drop p=b :: s.data.toList.drop (p+1):=by
  obtain⟨h1,rfl⟩:=List.getElem?_eq_some_iff.1 hb
  exact List.drop_eq_getElem_cons h1
 have HG:=zH (And.intro RV (And.intro TZ (And.intro TV OV)))
 clear hV hY BV at0 sC hAU hSU TV RV TZ OV HF
 have at0:=HG.out.1.at0
 have sC:=HG.out.1.sC
 have hAV:=HG.out.1.lA
 have hSV:=HG.out.1.lS
 go_upto_region 8 with fail
 obtain⟨x,hx⟩:∃ x,x=s.extract p s.size:=⟨_,rfl⟩
 have hxd:x.data.toList=s.data.toList.drop p:=by rw[hx,rest_data]
 have hxs:x.size≤2000:=by rw[← show x.data.toList.length=x.size from Array.length_toList,hxd,List.length_drop,hsl];omega
 rw[← hx] at hb0
 rw[← hx]
 obtain⟨p4,p5⟩:=byt_data hb0
 have eb:=(byt_at x 0 p4).trans p5
 have p6:(0:Int)<(x.size:Int):=by omega
 clear p5 hx at0 sC
 have hone:one (s.data.toList.drop p)=oneNum (s.data.toList.drop p):=by rw[hd,one_cons,hl,hdg];rfl
 have CK:=zH (lnumber_any x V HG.out.1.vars hxs b hb0 hdg)
 rw[hxd,← hone] at CK
 clear hone
 rw[h1] at CK
 have hrl:=(one_used h1).2
 rw[List.length_drop,hsl] at hrl
 have hwr:IntKind.i64.wrap ((p:Int)+(used:Int))=(p:Int)+(used:Int):=by rw[IntKind.wrap_i64];omega
 clear h1 hd
 generalize s.extract j s.size=dead1
 generalize IntKind.i64.wrap ((j:Int)+(n:Int))=dead2
 clear hj hs hjp hs0 hjs hj0 hys HP HN hs1 z1 hb hb0
 go_wp2_with fail
 refine (lletter_any b _ rfl _).mono ?_
 rintro e w9 ⟨rfl,hw9⟩
 rw[hw9]
 clear hw9
 rw[hl]
 go_wp2_with fail
 refine (ldigit_any b _ rfl _).mono ?_
 rintro e w9 ⟨rfl,hw9⟩
 rw[hw9]
 clear hw9
 rw[hdg]
 go_wp2_with fail
 refine (CK.out).mono ?_
 rintro e w2 ⟨rfl,hb2⟩
 have HX:=zH (And.intro (HG.out.1.on hb2) (And.intro (HG.out.2.1.on hb2) (And.intro (HG.out.2.2.1.on hb2) (HG.out.2.2.2.trans (Out.of hb2)))))
 have fY:=HX.out.2.2.1.fz
 have y0:=HX.out.2.2.1.c0
 have y1:=HX.out.2.2.1.c1
 have y2:=HX.out.2.2.1.c2
 have y3:=HX.out.2.2.1.c3
 have lY:=HX.out.2.2.1.lt
 clear hb2 CK
 go_upto_region 20 with fail
 obtain⟨X,hX⟩:∃ X,X=((((w2.setCell ⟨Y,0,none⟩ (.int .i64 (kd:Int))).setCell ⟨Y,1,none⟩ (.int .i64 (n':Int))).setCell ⟨Y,2,none⟩ (.int .i64 0)).setCell ⟨Y,3,none⟩ (.string (bsB st))):=⟨_,rfl⟩
 have RX:RD X A S K m s p:=by rw[hX];exact (((HX.out.1.setO HN5.out 0 _).setO HN5.out 1 _).setO HN5.out 2 _).setO HN5.out 3 _
 have TX:TK X w.heap.size 0 0 0 ⟨#[]⟩:=by rw[hX];exact (((HX.out.2.1.set (p:=⟨Y,0,none⟩) nYZ _).set (p:=⟨Y,1,none⟩) nYZ _).set (p:=⟨Y,2,none⟩) nYZ _).set (p:=⟨Y,3,none⟩) nYZ _
 have YX:TK X Y kd n' 0 (bsB st):=by rw[hX];exact HX.out.2.2.1.all _ _ _ _
 have OX:Out (fun k=>k=A) w X:=by rw[hX];exact HX.out.2.2.2.four (Nat.le_of_lt hZY) _ _ _ _
 rw[← hX]
 clear hX HX fY y0 y1 y2 y3 lY
 have HZ:=zH (And.intro RX (And.intro OX TX))
 obtain⟨lt,c0,c1,c2,c3,fz⟩:=TX
 obtain⟨lY,y0,y1,y2,y3,fY⟩:=YX
 have at0:=RX.at0
 have fA:=RX.fA
 have lA:=RX.lA
 clear RX OX
 go_wp2_with fail
 clear lt c0 c1 c2 c3 fz lY y0 y1 y2 y3 fY at0 fA lA
 obtain⟨T,hT⟩:∃ T,T=((((((X.setCell ⟨Y,2,none⟩ (.int .i64 (p:Int))).setCell ⟨A,0,none⟩ (.int .i64 ((p:Int)+(used:Int)))).setCell ⟨w.heap.size,0,none⟩ (.int .i64 (kd:Int))).setCell ⟨w.heap.size,1,none⟩ (.int .i64 (n':Int))).setCell ⟨w.heap.size,2,none⟩ (.int .i64 (p:Int))).setCell ⟨w.heap.size,3,none⟩ (.string (bsB st))):=⟨_,rfl⟩
 have OT:Out (fun k=>k=A) w T:=by rw[hT];exact (((HZ.out.2.1.setNew (p:=⟨Y,2,none⟩) (Nat.le_of_lt hZY) _).trans (Out.set _ _ rfl))).four (Nat.le_refl _) _ _ _ _
 have RT:RD T A S K m s (p+used):=by rw[hT];exact ((((((HZ.out.1.setO HN5.out 2 _).setA (i:=p+used) (by omega)).setO HN6.out 0 _).setO HN6.out 1 _).setO HN6.out 2 _).setO HN6.out 3 _)
 have TT:TK T w.heap.size kd n' p (bsB st):=by rw[hT];exact ((HZ.out.2.2.set (p:=⟨Y,2,none⟩) nYZ _).set (p:=⟨A,0,none⟩) nAZ _).all _ _ _ _
 obtain⟨-,t0,t1,t2,t3,-⟩:=TT
 rw[← hT]
 clear hT HZ
 refine bodyPost_ret (v:=.tuple #[.agg #[.int .i64 (kd:Int),.int .i64 (n':Int),.int .i64 (p:Int),.string (bsB st)],.int .i64 0,.int .i64 0]) (by simp[results,Tryz.results39,go_sem,t0,t1,t2,t3]) rfl ⟨⟨rfl,RT⟩,OT⟩
open Go.RowKit
set_option maxRecDepth 100000
set_option maxHeartbeats 8000000 in
theorem next_quote_err (A S K m:Nat) (s:ByteArray) (j:Nat) (w:World) (hR:RD w A S K m s j) (hj:j≤s.size) (hs:s.size≤2000) (p:Nat) (hp:p=j+((s.data.toList.drop j).takeWhile isBlank).length) (hlt:p<s.size) (b:UInt8) (hb:s.data.toList[p]?=some b) (hl:isLetter b=false) (hdg:isDigit b=false) (h39:b=39) (er rel:Nat) (h1:one (s.data.toList.drop p)=.err er rel) :
  Calls Tryz.prog 39 #[.pointer (some ⟨A,0,none⟩),.pointer (some ⟨S,0,none⟩),.pointer (some ⟨K,0,none⟩)] w fun e w'=>NextIs A S K m s p (some (.err er rel)) e w'∧Out (fun k=>k=A) w w':=by
 have hsl:s.data.toList.length=s.size:=Array.length_toList
 have hps:p≤s.size:=by have:=takeWhile_le isBlank (s.data.toList.drop j);rw[List.length_drop,hsl] at this;omega
 have hjp:j≤p:=by omega
 obtain⟨W0,hW0⟩:∃ W,W=w.alloc (.cells #[.int .i64 0,.int .i64 0,.int .i64 0,.string ⟨#[]⟩] 55):=⟨_,rfl⟩
 have T0:TK W0 w.heap.size 0 0 0 ⟨#[]⟩:=by rw[hW0];exact TK.new w 0 0 0 ⟨#[]⟩ _
 have B0:Below w.heap.size w W0:=by rw[hW0];(repeat (first | exact ext_refl _ | assumption |(refine ext_alloc ?_ _) |(refine ext_drewN ?_ _) | refine ext_drew ?_ |(refine ext_set (by first |(simp;done) |(simp;omega)) _ ?_) |(refine ext_trans ?_ (by assumption))))
 have hs0:W0.heap.size=w.heap.size+1:=by rw[hW0];simp
 have R0:RD W0 A S K m s j:=hR.on B0
 have hAZ:A<w.heap.size:=hR.lA
 have HN6:=zH (And.intro hR.lA (And.intro hR.lS (And.intro hR.lK hR.lm)))
 have HW:=zH hW0
 have hjs:(j:Int)≤(s.size:Int):=by omega
 have hj0:(0:Int)≤(j:Int):=by omega
 have hys:(s.extract j s.size).size≤2000:=by rw[← show (s.extract j s.size).data.toList.length=(s.extract j s.size).size from Array.length_toList,rest_data,List.length_drop,hsl];omega
 obtain⟨n,hn⟩:∃ n,n=((s.data.toList.drop j).takeWhile isBlank).length:=⟨_,rfl⟩
 rw[← hn] at hp
 have C0:=zH (fun W=>(span_blank (s.extract j s.size) W hys).mono fun e w' (h:_∧_)=>(⟨by rw[h.1,rest_data,← hn],by rw[h.2];exact Below.refl _ _⟩:e=.returned (.int .i64 (n:Int))∧Below W.heap.size W w'))
 have HP:=zH hp
 have HN:=zH hn
 clear hW0 hn hR
 go_enter Tryz.func39,Tryz.ntmps39
 go_upto_region 1 with fail
 rw[← HW.out]
 clear HW
 have r0:=fun (z:After W0)=>(z.cell A 0 R0.lA).trans R0.at0
 have r1:=fun (z:After W0)=>(z.cell S 0 R0.lS).trans R0.sC
 have is:=After.some W0
 clear hp
 refine wp_region_after_tail 6 (by kernel_rfl) (by kernel_rfl) ?_
 simp only[List.take_succ_cons,List.take_zero,List.drop_succ_cons,List.drop_zero]
 repeat (quiet_step ((go_at_call 40;exact calls_after (C0.out _))))
 refine wpQuiet_nil ?_
 intro W1 hw
 have hb1:Below W0.heap.size W0 W1:=by obtain⟨x,rfl⟩:=hw;exact x.below
 clear r0 r1 is hw C0
 have R1:=R0.on hb1
 have T1:=T0.on hb1
 have hs1:w.heap.size<W1.heap.size:=T1.lt
 have B1:Below w.heap.size w W1:=B0.trans (hb1.mono B0.size)
 have at0:=R1.at0
 have fA:=R1.fA
 have lA:=R1.lA
 have R2:=R1.set p
 have T2:=T1.set (p:=⟨A,0,none⟩) (by show A≠w.heap.size;omega) (.int .i64 (p:Int))
 have O2:Out (fun k=>k=A) w (W1.setCell ⟨A,0,none⟩ (.int .i64 (p:Int))):=(Out.of B1).trans (Out.set _ _ rfl)
 have e1:(j:Int)+(n:Int)=(p:Int):=by have:=HP.out;omega
 have hpi:(p:Int)≤9223372036854775807:=by omega
 have HF:=zH (And.intro R2 (And.intro T2 O2))
 clear R0 T0 B0 hb1 R1 T1 B1 R2 T2 O2
 go_upto_region 2 with fail
 obtain⟨U,hU⟩:∃ U,U=W1.setCell ⟨A,0,none⟩ (.int .i64 (p:Int)):=⟨_,rfl⟩
 rw[← hU] at HF
 rw[← hU]
 clear hU at0 fA lA e1
 have at0:=HF.out.1.at0
 have sC:=HF.out.1.sC
 have hAU:=HF.out.1.lA
 have hSU:=HF.out.1.lS
 have z1:((p:Int) == (s.size:Int))=false:=by rw[beq_eq_false_iff_ne];omega
 have hpl:(p:Int)≤(s.size:Int):=by omega
 have hb0:(s.extract p s.size).data.toList[0]?=some b:=by rw[rest_data,List.getElem?_drop];exact hb
 go_upto_region 7 with fail
 have TV:=TK.new U 0 0 0 ⟨#[]⟩ 55
 have BV:Below U.heap.size U (U.alloc (.cells #[.int .i64 0,.int .i64 0,.int .i64 0,.string ⟨#[]⟩] 55)):=ext_alloc (ext_refl _) _
 obtain⟨V,hV⟩:∃ V,V=U.alloc (.cells #[.int .i64 0,.int .i64 0,.int .i64 0,.string ⟨#[]⟩] 55):=⟨_,rfl⟩
 rw[← hV] at TV BV
 rw[← hV]
 obtain⟨Y,hY⟩:∃ Y,Y=U.heap.size:=⟨_,rfl⟩
 have hZY:w.heap.size<Y:=by rw[hY];exact HF.out.2.1.lt
 have RV:=HF.out.1.on BV
 have TZ:=HF.out.2.1.on BV
 have OV:Out (fun k=>k=A) w V:=HF.out.2.2.trans (Out.of BV)
 rw[← hY] at TV
 rw[← hY]
 have HN5:=zH (show A<Y∧S<Y∧K<Y∧m<Y by have:=HN6.out;omega)
 have nYZ:Y≠w.heap.size:=by omega
 have nZY:w.heap.size≠Y:=by omega
 have nAY:A≠Y:=by omega
 have nYA:Y≠A:=by omega
 have nAZ:A≠w.heap.size:=by omega
 have nZA:w.heap.size≠A:=by omega
 have hd:s.data.toList.drop p=b :: s.data.toList.drop (p+1):=by
  obtain⟨h1,rfl⟩:=List.getElem?_eq_some_iff.1 hb
  exact List.drop_eq_getElem_cons h1
 have HG:=zH (And.intro RV (And.intro TZ (And.intro TV OV)))
 clear hV hY BV at0 sC hAU hSU TV RV TZ OV HF
 have at0:=HG.out.1.at0
 have sC:=HG.out.1.sC
 have hAV:=HG.out.1.lA
 have hSV:=HG.out.1.lS
 go_upto_region 8 with fail
 obtain⟨x,hx⟩:∃ x,x=s.extract p s.size:=⟨_,rfl⟩
 have hxd:x.data.toList=s.data.toList.drop p:=by rw[hx,rest_data]
 have hxs:x.size≤2000:=by rw[← show x.data.toList.length=x.size from Array.length_toList,hxd,List.length_drop,hsl];omega
 rw[← hx] at hb0
 rw[← hx]
 obtain⟨p4,p5⟩:=byt_data hb0
 have eb:=(byt_at x 0 p4).trans p5
 have p6:(0:Int)<(x.size:Int):=by omega
 clear p5 hx at0 sC
 have hone:one (s.data.toList.drop p)=oneText (s.data.toList.drop (p+1)):=by rw[hd,one_cons,hl,hdg,if_neg (by simp),if_neg (by simp),if_pos h39]
 have CK:=zH (ltext_any x V hxs (s.data.toList.drop (p+1)) (by rw[hxd,hd,h39]))
 rw[← hone] at CK
 have m39:((b.toNat:Int) == 39)=true:=by rw[h39];rfl
 clear h39
 clear hone
 rw[h1] at CK
 have her:=(one_rel h1).1
 have hrl:=(one_rel h1).2
 rw[List.length_drop,hsl] at hrl
 have hwr:IntKind.i64.wrap ((p:Int)+(rel:Int))=(p:Int)+(rel:Int):=by rw[IntKind.wrap_i64];omega
 have h5:((er:Int) == 0)=false:=by rw[beq_eq_false_iff_ne];rcases her with rfl | rfl <;> decide
 clear h1 her hd
 generalize s.extract j s.size=dead1
 generalize IntKind.i64.wrap ((j:Int)+(n:Int))=dead2
 clear hj hs hjp hs0 hjs hj0 hys HP HN hs1 z1 hb hb0
 go_wp2_with fail
 refine (lletter_any b _ rfl _).mono ?_
 rintro e w9 ⟨rfl,hw9⟩
 rw[hw9]
 clear hw9
 rw[hl]
 go_wp2_with fail
 refine (ldigit_any b _ rfl _).mono ?_
 rintro e w9 ⟨rfl,hw9⟩
 rw[hw9]
 clear hw9
 rw[hdg]
 go_wp2_with fail
 refine (CK.out).mono ?_
 rintro e w2 ⟨rfl,hb2⟩
 have HX:=zH (And.intro (HG.out.1.on hb2) (And.intro (HG.out.2.1.on hb2) (And.intro (HG.out.2.2.1.on hb2) (HG.out.2.2.2.trans (Out.of hb2)))))
 have fY:=HX.out.2.2.1.fz
 have y0:=HX.out.2.2.1.c0
 have y1:=HX.out.2.2.1.c1
 have y2:=HX.out.2.2.1.c2
 have y3:=HX.out.2.2.1.c3
 have lY:=HX.out.2.2.1.lt
 clear hb2 CK
 go_upto_region 19 with fail
 obtain⟨X,hX⟩:∃ X,X=((((w2.setCell ⟨Y,0,none⟩ (.int .i64 0)).setCell ⟨Y,1,none⟩ (.int .i64 0)).setCell ⟨Y,2,none⟩ (.int .i64 0)).setCell ⟨Y,3,none⟩ (.string ⟨#[]⟩)):=⟨_,rfl⟩
 have RX:RD X A S K m s p:=by rw[hX];exact (((HX.out.1.setO HN5.out 0 _).setO HN5.out 1 _).setO HN5.out 2 _).setO HN5.out 3 _
 have TX:TK X w.heap.size 0 0 0 ⟨#[]⟩:=by rw[hX];exact (((HX.out.2.1.set (p:=⟨Y,0,none⟩) nYZ _).set (p:=⟨Y,1,none⟩) nYZ _).set (p:=⟨Y,2,none⟩) nYZ _).set (p:=⟨Y,3,none⟩) nYZ _
 have OX:Out (fun k=>k=A) w X:=by rw[hX];exact HX.out.2.2.2.four (Nat.le_of_lt hZY) _ _ _ _
 rw[← hX]
 clear hX HX fY y0 y1 y2 y3 lY
 obtain⟨lt,c0,c1,c2,c3,fz⟩:=TX
 have at0:=RX.at0
 have lA:=RX.lA
 have OQ:=zH OX
 clear RX OX
 go_region_held3 (fun W'=>W'.cell? ⟨A,0,none⟩=some (.int .i64 (p:Int))) (go_keep) (fail)
 all_goals go_wp2_with fail
 all_goals
  refine bodyPost_ret (v:=.tuple #[.agg #[.int .i64 0,.int .i64 0,.int .i64 0,.string ⟨#[]⟩],.int .i64 (er:Int),.int .i64 ((p:Int)+(rel:Int))]) (by simp[results,Tryz.results39,go_sem,c0,c1,c2,c3]) rfl ⟨rfl,?_⟩
  first | exact (OQ.out.four (Nat.le_refl _) _ _ _ _).trans (Out.drew _) | exact (OQ.out.trans (Out.drew _)).four (Nat.le_refl _) _ _ _ _ | exact OQ.out.four (Nat.le_refl _) _ _ _ _
set_option maxHeartbeats 8000000 in
theorem next_quote_tok (A S K m:Nat) (s:ByteArray) (j:Nat) (w:World) (hR:RD w A S K m s j) (hj:j≤s.size) (hs:s.size≤2000) (p:Nat) (hp:p=j+((s.data.toList.drop j).takeWhile isBlank).length) (hlt:p<s.size) (b:UInt8) (hb:s.data.toList[p]?=some b) (hl:isLetter b=false) (hdg:isDigit b=false) (h39:b=39) (kd n':Nat) (st:Bs) (used:Nat) (h1:one (s.data.toList.drop p)=.tok kd n' st used) :
  Calls Tryz.prog 39 #[.pointer (some ⟨A,0,none⟩),.pointer (some ⟨S,0,none⟩),.pointer (some ⟨K,0,none⟩)] w fun e w'=>NextIs A S K m s p (some (.tok kd n' st used)) e w'∧Out (fun k=>k=A) w w':=by
 have hsl:s.data.toList.length=s.size:=Array.length_toList
 have hps:p≤s.size:=by have:=takeWhile_le isBlank (s.data.toList.drop j);rw[List.length_drop,hsl] at this;omega
 have hjp:j≤p:=by omega
 obtain⟨W0,hW0⟩:∃ W,W=w.alloc (.cells #[.int .i64 0,.int .i64 0,.int .i64 0,.string ⟨#[]⟩] 55):=⟨_,rfl⟩
 have T0:TK W0 w.heap.size 0 0 0 ⟨#[]⟩:=by rw[hW0];exact TK.new w 0 0 0 ⟨#[]⟩ _
 have B0:Below w.heap.size w W0:=by rw[hW0];(repeat (first | exact ext_refl _ | assumption |(refine ext_alloc ?_ _) |(refine ext_drewN ?_ _) | refine ext_drew ?_ |(refine ext_set (by first |(simp;done) |(simp;omega)) _ ?_) |(refine ext_trans ?_ (by assumption))))
 have hs0:W0.heap.size=w.heap.size+1:=by rw[hW0];simp
 have R0:RD W0 A S K m s j:=hR.on B0
 have hAZ:A<w.heap.size:=hR.lA
 have HN6:=zH (And.intro hR.lA (And.intro hR.lS (And.intro hR.lK hR.lm)))
 have HW:=zH hW0
 have hjs:(j:Int)≤(s.size:Int):=by omega
 have hj0:(0:Int)≤(j:Int):=by omega
 have hys:(s.extract j s.size).size≤2000:=by rw[← show (s.extract j s.size).data.toList.length=(s.extract j s.size).size from Array.length_toList,rest_data,List.length_drop,hsl];omega
 obtain⟨n,hn⟩:∃ n,n=((s.data.toList.drop j).takeWhile isBlank).length:=⟨_,rfl⟩
 rw[← hn] at hp
 have C0:=zH (fun W=>(span_blank (s.extract j s.size) W hys).mono fun e w' (h:_∧_)=>(⟨by rw[h.1,rest_data,← hn],by rw[h.2];exact Below.refl _ _⟩:e=.returned (.int .i64 (n:Int))∧Below W.heap.size W w'))
 have HP:=zH hp
 have HN:=zH hn
 clear hW0 hn hR
 go_enter Tryz.func39,Tryz.ntmps39
 go_upto_region 1 with fail
 rw[← HW.out]
 clear HW
 have r0:=fun (z:After W0)=>(z.cell A 0 R0.lA).trans R0.at0
 have r1:=fun (z:After W0)=>(z.cell S 0 R0.lS).trans R0.sC
 have is:=After.some W0
 clear hp
 refine wp_region_after_tail 6 (by kernel_rfl) (by kernel_rfl) ?_
 simp only[List.take_succ_cons,List.take_zero,List.drop_succ_cons,List.drop_zero]
 repeat (quiet_step ((go_at_call 40;exact calls_after (C0.out _))))
 refine wpQuiet_nil ?_
 intro W1 hw
 have hb1:Below W0.heap.size W0 W1:=by obtain⟨x,rfl⟩:=hw;exact x.below
 clear r0 r1 is hw C0
 have R1:=R0.on hb1
 have T1:=T0.on hb1
 have hs1:w.heap.size<W1.heap.size:=T1.lt
 have B1:Below w.heap.size w W1:=B0.trans (hb1.mono B0.size)
 have at0:=R1.at0
 have fA:=R1.fA
 have lA:=R1.lA
 have R2:=R1.set p
 have T2:=T1.set (p:=⟨A,0,none⟩) (by show A≠w.heap.size;omega) (.int .i64 (p:Int))
 have O2:Out (fun k=>k=A) w (W1.setCell ⟨A,0,none⟩ (.int .i64 (p:Int))):=(Out.of B1).trans (Out.set _ _ rfl)
 have e1:(j:Int)+(n:Int)=(p:Int):=by have:=HP.out;omega
 have hpi:(p:Int)≤9223372036854775807:=by omega
 have HF:=zH (And.intro R2 (And.intro T2 O2))
 clear R0 T0 B0 hb1 R1 T1 B1 R2 T2 O2
 go_upto_region 2 with fail
 obtain⟨U,hU⟩:∃ U,U=W1.setCell ⟨A,0,none⟩ (.int .i64 (p:Int)):=⟨_,rfl⟩
 rw[← hU] at HF
 rw[← hU]
 clear hU at0 fA lA e1
 have at0:=HF.out.1.at0
 have sC:=HF.out.1.sC
 have hAU:=HF.out.1.lA
 have hSU:=HF.out.1.lS
 have z1:((p:Int) == (s.size:Int))=false:=by rw[beq_eq_false_iff_ne];omega
 have hpl:(p:Int)≤(s.size:Int):=by omega
 have hb0:(s.extract p s.size).data.toList[0]?=some b:=by rw[rest_data,List.getElem?_drop];exact hb
 go_upto_region 7 with fail
 have TV:=TK.new U 0 0 0 ⟨#[]⟩ 55
 have BV:Below U.heap.size U (U.alloc (.cells #[.int .i64 0,.int .i64 0,.int .i64 0,.string ⟨#[]⟩] 55)):=ext_alloc (ext_refl _) _
 obtain⟨V,hV⟩:∃ V,V=U.alloc (.cells #[.int .i64 0,.int .i64 0,.int .i64 0,.string ⟨#[]⟩] 55):=⟨_,rfl⟩
 rw[← hV] at TV BV
 rw[← hV]
 obtain⟨Y,hY⟩:∃ Y,Y=U.heap.size:=⟨_,rfl⟩
 have hZY:w.heap.size<Y:=by rw[hY];exact HF.out.2.1.lt
 have RV:=HF.out.1.on BV
 have TZ:=HF.out.2.1.on BV
 have OV:Out (fun k=>k=A) w V:=HF.out.2.2.trans (Out.of BV)
 rw[← hY] at TV
 rw[← hY]
 have HN5:=zH (show A<Y∧S<Y∧K<Y∧m<Y by have:=HN6.out;omega)
 have nYZ:Y≠w.heap.size:=by omega
 have nZY:w.heap.size≠Y:=by omega
 have nAY:A≠Y:=by omega
 have nYA:Y≠A:=by omega
 have nAZ:A≠w.heap.size:=by omega
 have nZA:w.heap.size≠A:=by omega
 have hd:s.data.toList.drop p=b :: s.data.toList.drop (p+1):=by
  obtain⟨h1,rfl⟩:=List.getElem?_eq_some_iff.1 hb
  exact List.drop_eq_getElem_cons h1
 have HG:=zH (And.intro RV (And.intro TZ (And.intro TV OV)))
 clear hV hY BV at0 sC hAU hSU TV RV TZ OV HF
 have at0:=HG.out.1.at0
 have sC:=HG.out.1.sC
 have hAV:=HG.out.1.lA
 have hSV:=HG.out.1.lS
 go_upto_region 8 with fail
 obtain⟨x,hx⟩:∃ x,x=s.extract p s.size:=⟨_,rfl⟩
 have hxd:x.data.toList=s.data.toList.drop p:=by rw[hx,rest_data]
 have hxs:x.size≤2000:=by rw[← show x.data.toList.length=x.size from Array.length_toList,hxd,List.length_drop,hsl];omega
 rw[← hx] at hb0
 rw[← hx]
 obtain⟨p4,p5⟩:=byt_data hb0
 have eb:=(byt_at x 0 p4).trans p5
 have p6:(0:Int)<(x.size:Int):=by omega
 clear p5 hx at0 sC
 have hone:one (s.data.toList.drop p)=oneText (s.data.toList.drop (p+1)):=by rw[hd,one_cons,hl,hdg,if_neg (by simp),if_neg (by simp),if_pos h39]
 have CK:=zH (ltext_any x V hxs (s.data.toList.drop (p+1)) (by rw[hxd,hd,h39]))
 rw[← hone] at CK
 have m39:((b.toNat:Int) == 39)=true:=by rw[h39];rfl
 clear h39
 clear hone
 rw[h1] at CK
 have hrl:=(one_used h1).2
 rw[List.length_drop,hsl] at hrl
 have hwr:IntKind.i64.wrap ((p:Int)+(used:Int))=(p:Int)+(used:Int):=by rw[IntKind.wrap_i64];omega
 clear h1 hd
 generalize s.extract j s.size=dead1
 generalize IntKind.i64.wrap ((j:Int)+(n:Int))=dead2
 clear hj hs hjp hs0 hjs hj0 hys HP HN hs1 z1 hb hb0
 go_wp2_with fail
 refine (lletter_any b _ rfl _).mono ?_
 rintro e w9 ⟨rfl,hw9⟩
 rw[hw9]
 clear hw9
 rw[hl]
 go_wp2_with fail
 refine (ldigit_any b _ rfl _).mono ?_
 rintro e w9 ⟨rfl,hw9⟩
 rw[hw9]
 clear hw9
 rw[hdg]
 go_wp2_with fail
 refine (CK.out).mono ?_
 rintro e w2 ⟨rfl,hb2⟩
 have HX:=zH (And.intro (HG.out.1.on hb2) (And.intro (HG.out.2.1.on hb2) (And.intro (HG.out.2.2.1.on hb2) (HG.out.2.2.2.trans (Out.of hb2)))))
 have fY:=HX.out.2.2.1.fz
 have y0:=HX.out.2.2.1.c0
 have y1:=HX.out.2.2.1.c1
 have y2:=HX.out.2.2.1.c2
 have y3:=HX.out.2.2.1.c3
 have lY:=HX.out.2.2.1.lt
 clear hb2 CK
 go_upto_region 20 with fail
 obtain⟨X,hX⟩:∃ X,X=((((w2.setCell ⟨Y,0,none⟩ (.int .i64 (kd:Int))).setCell ⟨Y,1,none⟩ (.int .i64 (n':Int))).setCell ⟨Y,2,none⟩ (.int .i64 0)).setCell ⟨Y,3,none⟩ (.string (bsB st))):=⟨_,rfl⟩
 have RX:RD X A S K m s p:=by rw[hX];exact (((HX.out.1.setO HN5.out 0 _).setO HN5.out 1 _).setO HN5.out 2 _).setO HN5.out 3 _
 have TX:TK X w.heap.size 0 0 0 ⟨#[]⟩:=by rw[hX];exact (((HX.out.2.1.set (p:=⟨Y,0,none⟩) nYZ _).set (p:=⟨Y,1,none⟩) nYZ _).set (p:=⟨Y,2,none⟩) nYZ _).set (p:=⟨Y,3,none⟩) nYZ _
 have YX:TK X Y kd n' 0 (bsB st):=by rw[hX];exact HX.out.2.2.1.all _ _ _ _
 have OX:Out (fun k=>k=A) w X:=by rw[hX];exact HX.out.2.2.2.four (Nat.le_of_lt hZY) _ _ _ _
 rw[← hX]
 clear hX HX fY y0 y1 y2 y3 lY
 have HZ:=zH (And.intro RX (And.intro OX TX))
 obtain⟨lt,c0,c1,c2,c3,fz⟩:=TX
 obtain⟨lY,y0,y1,y2,y3,fY⟩:=YX
 have at0:=RX.at0
 have fA:=RX.fA
 have lA:=RX.lA
 clear RX OX
 go_wp2_with fail
 clear lt c0 c1 c2 c3 fz lY y0 y1 y2 y3 fY at0 fA lA
 obtain⟨T,hT⟩:∃ T,T=((((((X.setCell ⟨Y,2,none⟩ (.int .i64 (p:Int))).setCell ⟨A,0,none⟩ (.int .i64 ((p:Int)+(used:Int)))).setCell ⟨w.heap.size,0,none⟩ (.int .i64 (kd:Int))).setCell ⟨w.heap.size,1,none⟩ (.int .i64 (n':Int))).setCell ⟨w.heap.size,2,none⟩ (.int .i64 (p:Int))).setCell ⟨w.heap.size,3,none⟩ (.string (bsB st))):=⟨_,rfl⟩
 have OT:Out (fun k=>k=A) w T:=by rw[hT];exact (((HZ.out.2.1.setNew (p:=⟨Y,2,none⟩) (Nat.le_of_lt hZY) _).trans (Out.set _ _ rfl))).four (Nat.le_refl _) _ _ _ _
 have RT:RD T A S K m s (p+used):=by rw[hT];exact ((((((HZ.out.1.setO HN5.out 2 _).setA (i:=p+used) (by omega)).setO HN6.out 0 _).setO HN6.out 1 _).setO HN6.out 2 _).setO HN6.out 3 _)
 have TT:TK T w.heap.size kd n' p (bsB st):=by rw[hT];exact ((HZ.out.2.2.set (p:=⟨Y,2,none⟩) nYZ _).set (p:=⟨A,0,none⟩) nAZ _).all _ _ _ _
 obtain⟨-,t0,t1,t2,t3,-⟩:=TT
 rw[← hT]
 clear hT HZ
 refine bodyPost_ret (v:=.tuple #[.agg #[.int .i64 (kd:Int),.int .i64 (n':Int),.int .i64 (p:Int),.string (bsB st)],.int .i64 0,.int .i64 0]) (by simp[results,Tryz.results39,go_sem,t0,t1,t2,t3]) rfl ⟨⟨rfl,RT⟩,OT⟩
open Go.RowKit
set_option maxRecDepth 100000
set_option maxHeartbeats 8000000 in
theorem next_dollar_err (A S K m:Nat) (s:ByteArray) (j:Nat) (w:World) (hR:RD w A S K m s j) (hj:j≤s.size) (hs:s.size≤2000) (p:Nat) (hp:p=j+((s.data.toList.drop j).takeWhile isBlank).length) (hlt:p<s.size) (b:UInt8) (hb:s.data.toList[p]?=some b) (hl:isLetter b=false) (hdg:isDigit b=false) (h39:b≠39) (h36:b=36) (er rel:Nat) (h1:one (s.data.toList.drop p)=.err er rel) :
  Calls Tryz.prog 39 #[.pointer (some ⟨A,0,none⟩),.pointer (some ⟨S,0,none⟩),.pointer (some ⟨K,0,none⟩)] w fun e w'=>NextIs A S K m s p (some (.err er rel)) e w'∧Out (fun k=>k=A) w w':=by
 have hsl:s.data.toList.length=s.size:=Array.length_toList
 have hps:p≤s.size:=by have:=takeWhile_le isBlank (s.data.toList.drop j);rw[List.length_drop,hsl] at this;omega
 have hjp:j≤p:=by omega
 obtain⟨W0,hW0⟩:∃ W,W=w.alloc (.cells #[.int .i64 0,.int .i64 0,.int .i64 0,.string ⟨#[]⟩] 55):=⟨_,rfl⟩
 have T0:TK W0 w.heap.size 0 0 0 ⟨#[]⟩:=by rw[hW0];exact TK.new w 0 0 0 ⟨#[]⟩ _
 have B0:Below w.heap.size w W0:=by rw[hW0];(repeat (first | exact ext_refl _ | assumption |(refine ext_alloc ?_ _) |(refine ext_drewN ?_ _) | refine ext_drew ?_ |(refine ext_set (by first |(simp;done) |(simp;omega)) _ ?_) |(refine ext_trans ?_ (by assumption))))
 have hs0:W0.heap.size=w.heap.size+1:=by rw[hW0];simp
 have R0:RD W0 A S K m s j:=hR.on B0
 have hAZ:A<w.heap.size:=hR.lA
 have HN6:=zH (And.intro hR.lA (And.intro hR.lS (And.intro hR.lK hR.lm)))
 have HW:=zH hW0
 have hjs:(j:Int)≤(s.size:Int):=by omega
 have hj0:(0:Int)≤(j:Int):=by omega
 have hys:(s.extract j s.size).size≤2000:=by rw[← show (s.extract j s.size).data.toList.length=(s.extract j s.size).size from Array.length_toList,rest_data,List.length_drop,hsl];omega
 obtain⟨n,hn⟩:∃ n,n=((s.data.toList.drop j).takeWhile isBlank).length:=⟨_,rfl⟩
 rw[← hn] at hp
 have C0:=zH (fun W=>(span_blank (s.extract j s.size) W hys).mono fun e w' (h:_∧_)=>(⟨by rw[h.1,rest_data,← hn],by rw[h.2];exact Below.refl _ _⟩:e=.returned (.int .i64 (n:Int))∧Below W.heap.size W w'))
 have HP:=zH hp
 have HN:=zH hn
 clear hW0 hn hR
 go_enter Tryz.func39,Tryz.ntmps39
 go_upto_region 1 with fail
 rw[← HW.out]
 clear HW
 have r0:=fun (z:After W0)=>(z.cell A 0 R0.lA).trans R0.at0
 have r1:=fun (z:After W0)=>(z.cell S 0 R0.lS).trans R0.sC
 have is:=After.some W0
 clear hp
 refine wp_region_after_tail 6 (by kernel_rfl) (by kernel_rfl) ?_
 simp only[List.take_succ_cons,List.take_zero,List.drop_succ_cons,List.drop_zero]
 repeat (quiet_step ((go_at_call 40;exact calls_after (C0.out _))))
 refine wpQuiet_nil ?_
 intro W1 hw
 have hb1:Below W0.heap.size W0 W1:=by obtain⟨x,rfl⟩:=hw;exact x.below
 clear r0 r1 is hw C0
 have R1:=R0.on hb1
 have T1:=T0.on hb1
 have hs1:w.heap.size<W1.heap.size:=T1.lt
 have B1:Below w.heap.size w W1:=B0.trans (hb1.mono B0.size)
 have at0:=R1.at0
 have fA:=R1.fA
 have lA:=R1.lA
 have R2:=R1.set p
 have T2:=T1.set (p:=⟨A,0,none⟩) (by show A≠w.heap.size;omega) (.int .i64 (p:Int))
 have O2:Out (fun k=>k=A) w (W1.setCell ⟨A,0,none⟩ (.int .i64 (p:Int))):=(Out.of B1).trans (Out.set _ _ rfl)
 have e1:(j:Int)+(n:Int)=(p:Int):=by have:=HP.out;omega
 have hpi:(p:Int)≤9223372036854775807:=by omega
 have HF:=zH (And.intro R2 (And.intro T2 O2))
 clear R0 T0 B0 hb1 R1 T1 B1 R2 T2 O2
 go_upto_region 2 with fail
 obtain⟨U,hU⟩:∃ U,U=W1.setCell ⟨A,0,none⟩ (.int .i64 (p:Int)):=⟨_,rfl⟩
 rw[← hU] at HF
 rw[← hU]
 clear hU at0 fA lA e1
 have at0:=HF.out.1.at0
 have sC:=HF.out.1.sC
 have hAU:=HF.out.1.lA
 have hSU:=HF.out.1.lS
 have z1:((p:Int) == (s.size:Int))=false:=by rw[beq_eq_false_iff_ne];omega
 have hpl:(p:Int)≤(s.size:Int):=by omega
 have hb0:(s.extract p s.size).data.toList[0]?=some b:=by rw[rest_data,List.getElem?_drop];exact hb
 go_upto_region 7 with fail
 have TV:=TK.new U 0 0 0 ⟨#[]⟩ 55
 have BV:Below U.heap.size U (U.alloc (.cells #[.int .i64 0,.int .i64 0,.int .i64 0,.string ⟨#[]⟩] 55)):=ext_alloc (ext_refl _) _
 obtain⟨V,hV⟩:∃ V,V=U.alloc (.cells #[.int .i64 0,.int .i64 0,.int .i64 0,.string ⟨#[]⟩] 55):=⟨_,rfl⟩
 rw[← hV] at TV BV
 rw[← hV]
 obtain⟨Y,hY⟩:∃ Y,Y=U.heap.size:=⟨_,rfl⟩
 have hZY:w.heap.size<Y:=by rw[hY];exact HF.out.2.1.lt
 have RV:=HF.out.1.on BV
 have TZ:=HF.out.2.1.on BV
 have OV:Out (fun k=>k=A) w V:=HF.out.2.2.trans (Out.of BV)
 rw[← hY] at TV
 rw[← hY]
 have HN5:=zH (show A<Y∧S<Y∧K<Y∧m<Y by have:=HN6.out;omega)
 have nYZ:Y≠w.heap.size:=by omega
 have nZY:w.heap.size≠Y:=by omega
 have nAY:A≠Y:=by omega
 have nYA:Y≠A:=by omega
 have nAZ:A≠w.heap.size:=by omega
 have nZA:w.heap.size≠A:=by omega
 have hd:s.data.toList.drop p=b :: s.data.toList.drop (p+1):=by
  obtain⟨h1,rfl⟩:=List.getElem?_eq_some_iff.1 hb
  exact List.drop_eq_getElem_cons h1
 have HG:=zH (And.intro RV (And.intro TZ (And.intro TV OV)))
 clear hV hY BV at0 sC hAU hSU TV RV TZ OV HF
 have at0:=HG.out.1.at0
 have sC:=HG.out.1.sC
 have hAV:=HG.out.1.lA
 have hSV:=HG.out.1.lS
 go_upto_region 8 with fail
 obtain⟨x,hx⟩:∃ x,x=s.extract p s.size:=⟨_,rfl⟩
 have hxd:x.data.toList=s.data.toList.drop p:=by rw[hx,rest_data]
 have hxs:x.size≤2000:=by rw[← show x.data.toList.length=x.size from Array.length_toList,hxd,List.length_drop,hsl];omega
 rw[← hx] at hb0
 rw[← hx]
 obtain⟨p4,p5⟩:=byt_data hb0
 have eb:=(byt_at x 0 p4).trans p5
 have p6:(0:Int)<(x.size:Int):=by omega
 clear p5 hx at0 sC
 have hone:one (s.data.toList.drop p)=onePar (s.data.toList.drop (p+1)):=by rw[hd,one_cons,hl,hdg,if_neg (by simp),if_neg (by simp),if_neg h39,if_pos h36]
 have CK:=zH (lparam_any x V HG.out.1.vars hxs (s.data.toList.drop (p+1)) (by rw[hxd,hd,h36]))
 rw[← hone] at CK
 have m39:((b.toNat:Int) == 39)=false:=by rw[h36];rfl
 have m36:((b.toNat:Int) == 36)=true:=by rw[h36];rfl
 clear h39 h36
 clear hone
 rw[h1] at CK
 have her:=(one_rel h1).1
 have hrl:=(one_rel h1).2
 rw[List.length_drop,hsl] at hrl
 have hwr:IntKind.i64.wrap ((p:Int)+(rel:Int))=(p:Int)+(rel:Int):=by rw[IntKind.wrap_i64];omega
 have h5:((er:Int) == 0)=false:=by rw[beq_eq_false_iff_ne];rcases her with rfl | rfl <;> decide
 clear h1 her hd
 generalize s.extract j s.size=dead1
 generalize IntKind.i64.wrap ((j:Int)+(n:Int))=dead2
 clear hj hs hjp hs0 hjs hj0 hys HP HN hs1 z1 hb hb0
 go_wp2_with fail
 refine (lletter_any b _ rfl _).mono ?_
 rintro e w9 ⟨rfl,hw9⟩
 rw[hw9]
 clear hw9
 rw[hl]
 go_wp2_with fail
 refine (ldigit_any b _ rfl _).mono ?_
 rintro e w9 ⟨rfl,hw9⟩
 rw[hw9]
 clear hw9
 rw[hdg]
 go_wp2_with fail
 refine (CK.out).mono ?_
 rintro e w2 ⟨rfl,hb2⟩
 have HX:=zH (And.intro (HG.out.1.on hb2) (And.intro (HG.out.2.1.on hb2) (And.intro (HG.out.2.2.1.on hb2) (HG.out.2.2.2.trans (Out.of hb2)))))
 have fY:=HX.out.2.2.1.fz
 have y0:=HX.out.2.2.1.c0
 have y1:=HX.out.2.2.1.c1
 have y2:=HX.out.2.2.1.c2
 have y3:=HX.out.2.2.1.c3
 have lY:=HX.out.2.2.1.lt
 clear hb2 CK
 go_upto_region 19 with fail
 obtain⟨X,hX⟩:∃ X,X=((((w2.setCell ⟨Y,0,none⟩ (.int .i64 0)).setCell ⟨Y,1,none⟩ (.int .i64 0)).setCell ⟨Y,2,none⟩ (.int .i64 0)).setCell ⟨Y,3,none⟩ (.string ⟨#[]⟩)):=⟨_,rfl⟩
 have RX:RD X A S K m s p:=by rw[hX];exact (((HX.out.1.setO HN5.out 0 _).setO HN5.out 1 _).setO HN5.out 2 _).setO HN5.out 3 _
 have TX:TK X w.heap.size 0 0 0 ⟨#[]⟩:=by rw[hX];exact (((HX.out.2.1.set (p:=⟨Y,0,none⟩) nYZ _).set (p:=⟨Y,1,none⟩) nYZ _).set (p:=⟨Y,2,none⟩) nYZ _).set (p:=⟨Y,3,none⟩) nYZ _
 have OX:Out (fun k=>k=A) w X:=by rw[hX];exact HX.out.2.2.2.four (Nat.le_of_lt hZY) _ _ _ _
 rw[← hX]
 clear hX HX fY y0 y1 y2 y3 lY
 obtain⟨lt,c0,c1,c2,c3,fz⟩:=TX
 have at0:=RX.at0
 have lA:=RX.lA
 have OQ:=zH OX
 clear RX OX
 go_region_held3 (fun W'=>W'.cell? ⟨A,0,none⟩=some (.int .i64 (p:Int))) (go_keep) (fail)
 all_goals go_wp2_with fail
 all_goals
  refine bodyPost_ret (v:=.tuple #[.agg #[.int .i64 0,.int .i64 0,.int .i64 0,.string ⟨#[]⟩],.int .i64 (er:Int),.int .i64 ((p:Int)+(rel:Int))]) (by simp[results,Tryz.results39,go_sem,c0,c1,c2,c3]) rfl ⟨rfl,?_⟩
  first | exact (OQ.out.four (Nat.le_refl _) _ _ _ _).trans (Out.drew _) | exact (OQ.out.trans (Out.drew _)).four (Nat.le_refl _) _ _ _ _ | exact OQ.out.four (Nat.le_refl _) _ _ _ _
set_option maxHeartbeats 8000000 in
theorem next_dollar_tok (A S K m:Nat) (s:ByteArray) (j:Nat) (w:World) (hR:RD w A S K m s j) (hj:j≤s.size) (hs:s.size≤2000) (p:Nat) (hp:p=j+((s.data.toList.drop j).takeWhile isBlank).length) (hlt:p<s.size) (b:UInt8) (hb:s.data.toList[p]?=some b) (hl:isLetter b=false) (hdg:isDigit b=false) (h39:b≠39) (h36:b=36) (kd n':Nat) (st:Bs) (used:Nat) (h1:one (s.data.toList.drop p)=.tok kd n' st used) :
  Calls Tryz.prog 39 #[.pointer (some ⟨A,0,none⟩),.pointer (some ⟨S,0,none⟩),.pointer (some ⟨K,0,none⟩)] w fun e w'=>NextIs A S K m s p (some (.tok kd n' st used)) e w'∧Out (fun k=>k=A) w w':=by
 have hsl:s.data.toList.length=s.size:=Array.length_toList
 have hps:p≤s.size:=by have:=takeWhile_le isBlank (s.data.toList.drop j);rw[List.length_drop,hsl] at this;omega
 have hjp:j≤p:=by omega
 obtain⟨W0,hW0⟩:∃ W,W=w.alloc (.cells #[.int .i64 0,.int .i64 0,.int .i64 0,.string ⟨#[]⟩] 55):=⟨_,rfl⟩
 have T0:TK W0 w.heap.size 0 0 0 ⟨#[]⟩:=by rw[hW0];exact TK.new w 0 0 0 ⟨#[]⟩ _
 have B0:Below w.heap.size w W0:=by rw[hW0];(repeat (first | exact ext_refl _ | assumption |(refine ext_alloc ?_ _) |(refine ext_drewN ?_ _) | refine ext_drew ?_ |(refine ext_set (by first |(simp;done) |(simp;omega)) _ ?_) |(refine ext_trans ?_ (by assumption))))
 have hs0:W0.heap.size=w.heap.size+1:=by rw[hW0];simp
 have R0:RD W0 A S K m s j:=hR.on B0
 have hAZ:A<w.heap.size:=hR.lA
 have HN6:=zH (And.intro hR.lA (And.intro hR.lS (And.intro hR.lK hR.lm)))
 have HW:=zH hW0
 have hjs:(j:Int)≤(s.size:Int):=by omega
 have hj0:(0:Int)≤(j:Int):=by omega
 have hys:(s.extract j s.size).size≤2000:=by rw[← show (s.extract j s.size).data.toList.length=(s.extract j s.size).size from Array.length_toList,rest_data,List.length_drop,hsl];omega
 obtain⟨n,hn⟩:∃ n,n=((s.data.toList.drop j).takeWhile isBlank).length:=⟨_,rfl⟩
 rw[← hn] at hp
 have C0:=zH (fun W=>(span_blank (s.extract j s.size) W hys).mono fun e w' (h:_∧_)=>(⟨by rw[h.1,rest_data,← hn],by rw[h.2];exact Below.refl _ _⟩:e=.returned (.int .i64 (n:Int))∧Below W.heap.size W w'))
 have HP:=zH hp
 have HN:=zH hn
 clear hW0 hn hR
 go_enter Tryz.func39,Tryz.ntmps39
 go_upto_region 1 with fail
 rw[← HW.out]
 clear HW
 have r0:=fun (z:After W0)=>(z.cell A 0 R0.lA).trans R0.at0
 have r1:=fun (z:After W0)=>(z.cell S 0 R0.lS).trans R0.sC
 have is:=After.some W0
 clear hp
 refine wp_region_after_tail 6 (by kernel_rfl) (by kernel_rfl) ?_
 simp only[List.take_succ_cons,List.take_zero,List.drop_succ_cons,List.drop_zero]
 repeat (quiet_step ((go_at_call 40;exact calls_after (C0.out _))))
 refine wpQuiet_nil ?_
 intro W1 hw
 have hb1:Below W0.heap.size W0 W1:=by obtain⟨x,rfl⟩:=hw;exact x.below
 clear r0 r1 is hw C0
 have R1:=R0.on hb1
 have T1:=T0.on hb1
 have hs1:w.heap.size<W1.heap.size:=T1.lt
 have B1:Below w.heap.size w W1:=B0.trans (hb1.mono B0.size)
 have at0:=R1.at0
 have fA:=R1.fA
 have lA:=R1.lA
 have R2:=R1.set p
 have T2:=T1.set (p:=⟨A,0,none⟩) (by show A≠w.heap.size;omega) (.int .i64 (p:Int))
 have O2:Out (fun k=>k=A) w (W1.setCell ⟨A,0,none⟩ (.int .i64 (p:Int))):=(Out.of B1).trans (Out.set _ _ rfl)
 have e1:(j:Int)+(n:Int)=(p:Int):=by have:=HP.out;omega
 have hpi:(p:Int)≤9223372036854775807:=by omega
 have HF:=zH (And.intro R2 (And.intro T2 O2))
 clear R0 T0 B0 hb1 R1 T1 B1 R2 T2 O2
 go_upto_region 2 with fail
 obtain⟨U,hU⟩:∃ U,U=W1.setCell ⟨A,0,none⟩ (.int .i64 (p:Int)):=⟨_,rfl⟩
 rw[← hU] at HF
 rw[← hU]
 clear hU at0 fA lA e1
 have at0:=HF.out.1.at0
 have sC:=HF.out.1.sC
 have hAU:=HF.out.1.lA
 have hSU:=HF.out.1.lS
 have z1:((p:Int) == (s.size:Int))=false:=by rw[beq_eq_false_iff_ne];omega
 have hpl:(p:Int)≤(s.size:Int):=by omega
 have hb0:(s.extract p s.size).data.toList[0]?=some b:=by rw[rest_data,List.getElem?_drop];exact hb
 go_upto_region 7 with fail
 have TV:=TK.new U 0 0 0 ⟨#[]⟩ 55
 have BV:Below U.heap.size U (U.alloc (.cells #[.int .i64 0,.int .i64 0,.int .i64 0,.string ⟨#[]⟩] 55)):=ext_alloc (ext_refl _) _
 obtain⟨V,hV⟩:∃ V,V=U.alloc (.cells #[.int .i64 0,.int .i64 0,.int .i64 0,.string ⟨#[]⟩] 55):=⟨_,rfl⟩
 rw[← hV] at TV BV
 rw[← hV]
 obtain⟨Y,hY⟩:∃ Y,Y=U.heap.size:=⟨_,rfl⟩
 have hZY:w.heap.size<Y:=by rw[hY];exact HF.out.2.1.lt
 have RV:=HF.out.1.on BV
 have TZ:=HF.out.2.1.on BV
 have OV:Out (fun k=>k=A) w V:=HF.out.2.2.trans (Out.of BV)
 rw[← hY] at TV
 rw[← hY]
 have HN5:=zH (show A<Y∧S<Y∧K<Y∧m<Y by have:=HN6.out;omega)
 have nYZ:Y≠w.heap.size:=by omega
 have nZY:w.heap.size≠Y:=by omega
 have nAY:A≠Y:=by omega
 have nYA:Y≠A:=by omega
 have nAZ:A≠w.heap.size:=by omega
 have nZA:w.heap.size≠A:=by omega
 have hd:s.data.toList.drop p=b :: s.data.toList.drop (p+1):=by
  obtain⟨h1,rfl⟩:=List.getElem?_eq_some_iff.1 hb
  exact List.drop_eq_getElem_cons h1
 have HG:=zH (And.intro RV (And.intro TZ (And.intro TV OV)))
 clear hV hY BV at0 sC hAU hSU TV RV TZ OV HF
 have at0:=HG.out.1.at0
 have sC:=HG.out.1.sC
 have hAV:=HG.out.1.lA
 have hSV:=HG.out.1.lS
 go_upto_region 8 with fail
 obtain⟨x,hx⟩:∃ x,x=s.extract p s.size:=⟨_,rfl⟩
 have hxd:x.data.toList=s.data.toList.drop p:=by rw[hx,rest_data]
 have hxs:x.size≤2000:=by rw[← show x.data.toList.length=x.size from Array.length_toList,hxd,List.length_drop,hsl];omega
 rw[← hx] at hb0
 rw[← hx]
 obtain⟨p4,p5⟩:=byt_data hb0
 have eb:=(byt_at x 0 p4).trans p5
 have p6:(0:Int)<(x.size:Int):=by omega
 clear p5 hx at0 sC
 have hone:one (s.data.toList.drop p)=onePar (s.data.toList.drop (p+1)):=by rw[hd,one_cons,hl,hdg,if_neg (by simp),if_neg (by simp),if_neg h39,if_pos h36]
 have CK:=zH (lparam_any x V HG.out.1.vars hxs (s.data.toList.drop (p+1)) (by rw[hxd,hd,h36]))
 rw[← hone] at CK
 have m39:((b.toNat:Int) == 39)=false:=by rw[h36];rfl
 have m36:((b.toNat:Int) == 36)=true:=by rw[h36];rfl
 clear h39 h36
 clear hone
 rw[h1] at CK
 have hrl:=(one_used h1).2
 rw[List.length_drop,hsl] at hrl
 have hwr:IntKind.i64.wrap ((p:Int)+(used:Int))=(p:Int)+(used:Int):=by rw[IntKind.wrap_i64];omega
 clear h1 hd
 generalize s.extract j s.size=dead1
 generalize IntKind.i64.wrap ((j:Int)+(n:Int))=dead2
 clear hj hs hjp hs0 hjs hj0 hys HP HN hs1 z1 hb hb0
 go_wp2_with fail
 refine (lletter_any b _ rfl _).mono ?_
 rintro e w9 ⟨rfl,hw9⟩
 rw[hw9]
 clear hw9
 rw[hl]
 go_wp2_with fail
 refine (ldigit_any b _ rfl _).mono ?_
 rintro e w9 ⟨rfl,hw9⟩
 rw[hw9]
 clear hw9
 rw[hdg]
 go_wp2_with fail
 refine (CK.out).mono ?_
 rintro e w2 ⟨rfl,hb2⟩
 have HX:=zH (And.intro (HG.out.1.on hb2) (And.intro (HG.out.2.1.on hb2) (And.intro (HG.out.2.2.1.on hb2) (HG.out.2.2.2.trans (Out.of hb2)))))
 have fY:=HX.out.2.2.1.fz
 have y0:=HX.out.2.2.1.c0
 have y1:=HX.out.2.2.1.c1
 have y2:=HX.out.2.2.1.c2
 have y3:=HX.out.2.2.1.c3
 have lY:=HX.out.2.2.1.lt
 clear hb2 CK
 go_upto_region 20 with fail
 obtain⟨X,hX⟩:∃ X,X=((((w2.setCell ⟨Y,0,none⟩ (.int .i64 (kd:Int))).setCell ⟨Y,1,none⟩ (.int .i64 (n':Int))).setCell ⟨Y,2,none⟩ (.int .i64 0)).setCell ⟨Y,3,none⟩ (.string (bsB st))):=⟨_,rfl⟩
 have RX:RD X A S K m s p:=by rw[hX];exact (((HX.out.1.setO HN5.out 0 _).setO HN5.out 1 _).setO HN5.out 2 _).setO HN5.out 3 _
 have TX:TK X w.heap.size 0 0 0 ⟨#[]⟩:=by rw[hX];exact (((HX.out.2.1.set (p:=⟨Y,0,none⟩) nYZ _).set (p:=⟨Y,1,none⟩) nYZ _).set (p:=⟨Y,2,none⟩) nYZ _).set (p:=⟨Y,3,none⟩) nYZ _
 have YX:TK X Y kd n' 0 (bsB st):=by rw[hX];exact HX.out.2.2.1.all _ _ _ _
 have OX:Out (fun k=>k=A) w X:=by rw[hX];exact HX.out.2.2.2.four (Nat.le_of_lt hZY) _ _ _ _
 rw[← hX]
 clear hX HX fY y0 y1 y2 y3 lY
 have HZ:=zH (And.intro RX (And.intro OX TX))
 obtain⟨lt,c0,c1,c2,c3,fz⟩:=TX
 obtain⟨lY,y0,y1,y2,y3,fY⟩:=YX
 have at0:=RX.at0
 have fA:=RX.fA
 have lA:=RX.lA
 clear RX OX
 go_wp2_with fail
 clear lt c0 c1 c2 c3 fz lY y0 y1 y2 y3 fY at0 fA lA
 obtain⟨T,hT⟩:∃ T,T=((((((X.setCell ⟨Y,2,none⟩ (.int .i64 (p:Int))).setCell ⟨A,0,none⟩ (.int .i64 ((p:Int)+(used:Int)))).setCell ⟨w.heap.size,0,none⟩ (.int .i64 (kd:Int))).setCell ⟨w.heap.size,1,none⟩ (.int .i64 (n':Int))).setCell ⟨w.heap.size,2,none⟩ (.int .i64 (p:Int))).setCell ⟨w.heap.size,3,none⟩ (.string (bsB st))):=⟨_,rfl⟩
 have OT:Out (fun k=>k=A) w T:=by rw[hT];exact (((HZ.out.2.1.setNew (p:=⟨Y,2,none⟩) (Nat.le_of_lt hZY) _).trans (Out.set _ _ rfl))).four (Nat.le_refl _) _ _ _ _
 have RT:RD T A S K m s (p+used):=by rw[hT];exact ((((((HZ.out.1.setO HN5.out 2 _).setA (i:=p+used) (by omega)).setO HN6.out 0 _).setO HN6.out 1 _).setO HN6.out 2 _).setO HN6.out 3 _)
 have TT:TK T w.heap.size kd n' p (bsB st):=by rw[hT];exact ((HZ.out.2.2.set (p:=⟨Y,2,none⟩) nYZ _).set (p:=⟨A,0,none⟩) nAZ _).all _ _ _ _
 obtain⟨-,t0,t1,t2,t3,-⟩:=TT
 rw[← hT]
 clear hT HZ
 refine bodyPost_ret (v:=.tuple #[.agg #[.int .i64 (kd:Int),.int .i64 (n':Int),.int .i64 (p:Int),.string (bsB st)],.int .i64 0,.int .i64 0]) (by simp[results,Tryz.results39,go_sem,t0,t1,t2,t3]) rfl ⟨⟨rfl,RT⟩,OT⟩
open Go.RowKit
set_option maxRecDepth 100000
set_option maxHeartbeats 8000000 in
theorem next_other_err (A S K m:Nat) (s:ByteArray) (j:Nat) (w:World) (hR:RD w A S K m s j) (hj:j≤s.size) (hs:s.size≤2000) (p:Nat) (hp:p=j+((s.data.toList.drop j).takeWhile isBlank).length) (hlt:p<s.size) (b:UInt8) (hb:s.data.toList[p]?=some b) (hl:isLetter b=false) (hdg:isDigit b=false) (h39:b≠39) (h36:b≠36) (er rel:Nat) (h1:one (s.data.toList.drop p)=.err er rel) :
  Calls Tryz.prog 39 #[.pointer (some ⟨A,0,none⟩),.pointer (some ⟨S,0,none⟩),.pointer (some ⟨K,0,none⟩)] w fun e w'=>NextIs A S K m s p (some (.err er rel)) e w'∧Out (fun k=>k=A) w w':=by
 have hsl:s.data.toList.length=s.size:=Array.length_toList
 have hps:p≤s.size:=by have:=takeWhile_le isBlank (s.data.toList.drop j);rw[List.length_drop,hsl] at this;omega
 have hjp:j≤p:=by omega
 obtain⟨W0,hW0⟩:∃ W,W=w.alloc (.cells #[.int .i64 0,.int .i64 0,.int .i64 0,.string ⟨#[]⟩] 55):=⟨_,rfl⟩
 have T0:TK W0 w.heap.size 0 0 0 ⟨#[]⟩:=by rw[hW0];exact TK.new w 0 0 0 ⟨#[]⟩ _
 have B0:Below w.heap.size w W0:=by rw[hW0];(repeat (first | exact ext_refl _ | assumption |(refine ext_alloc ?_ _) |(refine ext_drewN ?_ _) | refine ext_drew ?_ |(refine ext_set (by first |(simp;done) |(simp;omega)) _ ?_) |(refine ext_trans ?_ (by assumption))))
 have hs0:W0.heap.size=w.heap.size+1:=by rw[hW0];simp
 have R0:RD W0 A S K m s j:=hR.on B0
 have hAZ:A<w.heap.size:=hR.lA
 have HN6:=zH (And.intro hR.lA (And.intro hR.lS (And.intro hR.lK hR.lm)))
 have HW:=zH hW0
 have hjs:(j:Int)≤(s.size:Int):=by omega
 have hj0:(0:Int)≤(j:Int):=by omega
 have hys:(s.extract j s.size).size≤2000:=by rw[← show (s.extract j s.size).data.toList.length=(s.extract j s.size).size from Array.length_toList,rest_data,List.length_drop,hsl];omega
 obtain⟨n,hn⟩:∃ n,n=((s.data.toList.drop j).takeWhile isBlank).length:=⟨_,rfl⟩
 rw[← hn] at hp
 have C0:=zH (fun W=>(span_blank (s.extract j s.size) W hys).mono fun e w' (h:_∧_)=>(⟨by rw[h.1,rest_data,← hn],by rw[h.2];exact Below.refl _ _⟩:e=.returned (.int .i64 (n:Int))∧Below W.heap.size W w'))
 have HP:=zH hp
 have HN:=zH hn
 clear hW0 hn hR
 go_enter Tryz.func39,Tryz.ntmps39
 go_upto_region 1 with fail
 rw[← HW.out]
 clear HW
 have r0:=fun (z:After W0)=>(z.cell A 0 R0.lA).trans R0.at0
 have r1:=fun (z:After W0)=>(z.cell S 0 R0.lS).trans R0.sC
 have is:=After.some W0
 clear hp
 refine wp_region_after_tail 6 (by kernel_rfl) (by kernel_rfl) ?_
 simp only[List.take_succ_cons,List.take_zero,List.drop_succ_cons,List.drop_zero]
 repeat (quiet_step ((go_at_call 40;exact calls_after (C0.out _))))
 refine wpQuiet_nil ?_
 intro W1 hw
 have hb1:Below W0.heap.size W0 W1:=by obtain⟨x,rfl⟩:=hw;exact x.below
 clear r0 r1 is hw C0
 have R1:=R0.on hb1
 have T1:=T0.on hb1
 have hs1:w.heap.size<W1.heap.size:=T1.lt
 have B1:Below w.heap.size w W1:=B0.trans (hb1.mono B0.size)
 have at0:=R1.at0
 have fA:=R1.fA
 have lA:=R1.lA
 have R2:=R1.set p
 have T2:=T1.set (p:=⟨A,0,none⟩) (by show A≠w.heap.size;omega) (.int .i64 (p:Int))
 have O2:Out (fun k=>k=A) w (W1.setCell ⟨A,0,none⟩ (.int .i64 (p:Int))):=(Out.of B1).trans (Out.set _ _ rfl)
 have e1:(j:Int)+(n:Int)=(p:Int):=by have:=HP.out;omega
 have hpi:(p:Int)≤9223372036854775807:=by omega
 have HF:=zH (And.intro R2 (And.intro T2 O2))
 clear R0 T0 B0 hb1 R1 T1 B1 R2 T2 O2
 go_upto_region 2 with fail
 obtain⟨U,hU⟩:∃ U,U=W1.setCell ⟨A,0,none⟩ (.int .i64 (p:Int)):=⟨_,rfl⟩
 rw[← hU] at HF
 rw[← hU]
 clear hU at0 fA lA e1
 have at0:=HF.out.1.at0
 have sC:=HF.out.1.sC
 have hAU:=HF.out.1.lA
 have hSU:=HF.out.1.lS
 have z1:((p:Int) == (s.size:Int))=false:=by rw[beq_eq_false_iff_ne];omega
 have hpl:(p:Int)≤(s.size:Int):=by omega
 have hb0:(s.extract p s.size).data.toList[0]?=some b:=by rw[rest_data,List.getElem?_drop];exact hb
 go_upto_region 7 with fail
 have TV:=TK.new U 0 0 0 ⟨#[]⟩ 55
 have BV:Below U.heap.size U (U.alloc (.cells #[.int .i64 0,.int .i64 0,.int .i64 0,.string ⟨#[]⟩] 55)):=ext_alloc (ext_refl _) _
 obtain⟨V,hV⟩:∃ V,V=U.alloc (.cells #[.int .i64 0,.int .i64 0,.int .i64 0,.string ⟨#[]⟩] 55):=⟨_,rfl⟩
 rw[← hV] at TV BV
 rw[← hV]
 obtain⟨Y,hY⟩:∃ Y,Y=U.heap.size:=⟨_,rfl⟩
 have hZY:w.heap.size<Y:=by rw[hY];exact HF.out.2.1.lt
 have RV:=HF.out.1.on BV
 have TZ:=HF.out.2.1.on BV
 have OV:Out (fun k=>k=A) w V:=HF.out.2.2.trans (Out.of BV)
 rw[← hY] at TV
 rw[← hY]
 have HN5:=zH (show A<Y∧S<Y∧K<Y∧m<Y by have:=HN6.out;omega)
 have nYZ:Y≠w.heap.size:=by omega
 have nZY:w.heap.size≠Y:=by omega
 have nAY:A≠Y:=by omega
 have nYA:Y≠A:=by omega
 have nAZ:A≠w.heap.size:=by omega
 have nZA:w.heap.size≠A:=by omega
 have hd:s.data.toList.drop p=b :: s.data.toList.drop (p+1):=by
  obtain⟨h1,rfl⟩:=List.getElem?_eq_some_iff.1 hb
  exact List.drop_eq_getElem_cons h1
 have HG:=zH (And.intro RV (And.intro TZ (And.intro TV OV)))
 clear hV hY BV at0 sC hAU hSU TV RV TZ OV HF
 have at0:=HG.out.1.at0
 have sC:=HG.out.1.sC
 have hAV:=HG.out.1.lA
 have hSV:=HG.out.1.lS
 go_upto_region 8 with fail
 obtain⟨x,hx⟩:∃ x,x=s.extract p s.size:=⟨_,rfl⟩
 have hxd:x.data.toList=s.data.toList.drop p:=by rw[hx,rest_data]
 have hxs:x.size≤2000:=by rw[← show x.data.toList.length=x.size from Array.length_toList,hxd,List.length_drop,hsl];omega
 rw[← hx] at hb0
 rw[← hx]
 obtain⟨p4,p5⟩:=byt_data hb0
 have eb:=(byt_at x 0 p4).trans p5
 have p6:(0:Int)<(x.size:Int):=by omega
 clear p5 hx at0 sC
 have hone:one (s.data.toList.drop p)=oneSign (s.data.toList.drop p):=by rw[hd,one_cons,hl,hdg,if_neg (by simp),if_neg (by simp),if_neg h39,if_neg h36,← hd]
 have CK:=zH (lsign_any x V HG.out.1.vars)
 rw[hxd,← hone] at CK
 have m39:((b.toNat:Int) == 39)=false:=by
  rw[beq_eq_false_iff_ne]
  intro h
  exact h39 (UInt8.toNat_inj.1 (by have:b.toNat=39:=(by omega);rw[this];rfl))
 have m36:((b.toNat:Int) == 36)=false:=by
  rw[beq_eq_false_iff_ne]
  intro h
  exact h36 (UInt8.toNat_inj.1 (by have:b.toNat=36:=(by omega);rw[this];rfl))
 clear h39 h36
 clear hone
 rw[h1] at CK
 have her:=(one_rel h1).1
 have hrl:=(one_rel h1).2
 rw[List.length_drop,hsl] at hrl
 have hwr:IntKind.i64.wrap ((p:Int)+(rel:Int))=(p:Int)+(rel:Int):=by rw[IntKind.wrap_i64];omega
 have h5:((er:Int) == 0)=false:=by rw[beq_eq_false_iff_ne];rcases her with rfl | rfl <;> decide
 clear h1 her hd
 generalize s.extract j s.size=dead1
 generalize IntKind.i64.wrap ((j:Int)+(n:Int))=dead2
 clear hj hs hjp hs0 hjs hj0 hys HP HN hs1 z1 hb hb0
 go_wp2_with fail
 refine (lletter_any b _ rfl _).mono ?_
 rintro e w9 ⟨rfl,hw9⟩
 rw[hw9]
 clear hw9
 rw[hl]
 go_wp2_with fail
 refine (ldigit_any b _ rfl _).mono ?_
 rintro e w9 ⟨rfl,hw9⟩
 rw[hw9]
 clear hw9
 rw[hdg]
 go_wp2_with fail
 refine (CK.out).mono ?_
 rintro e w2 ⟨rfl,hb2⟩
 have HX:=zH (And.intro (HG.out.1.on hb2) (And.intro (HG.out.2.1.on hb2) (And.intro (HG.out.2.2.1.on hb2) (HG.out.2.2.2.trans (Out.of hb2)))))
 have fY:=HX.out.2.2.1.fz
 have y0:=HX.out.2.2.1.c0
 have y1:=HX.out.2.2.1.c1
 have y2:=HX.out.2.2.1.c2
 have y3:=HX.out.2.2.1.c3
 have lY:=HX.out.2.2.1.lt
 clear hb2 CK
 go_upto_region 19 with fail
 obtain⟨X,hX⟩:∃ X,X=((((w2.setCell ⟨Y,0,none⟩ (.int .i64 0)).setCell ⟨Y,1,none⟩ (.int .i64 0)).setCell ⟨Y,2,none⟩ (.int .i64 0)).setCell ⟨Y,3,none⟩ (.string ⟨#[]⟩)):=⟨_,rfl⟩
 have RX:RD X A S K m s p:=by rw[hX];exact (((HX.out.1.setO HN5.out 0 _).setO HN5.out 1 _).setO HN5.out 2 _).setO HN5.out 3 _
 have TX:TK X w.heap.size 0 0 0 ⟨#[]⟩:=by rw[hX];exact (((HX.out.2.1.set (p:=⟨Y,0,none⟩) nYZ _).set (p:=⟨Y,1,none⟩) nYZ _).set (p:=⟨Y,2,none⟩) nYZ _).set (p:=⟨Y,3,none⟩) nYZ _
 have OX:Out (fun k=>k=A) w X:=by rw[hX];exact HX.out.2.2.2.four (Nat.le_of_lt hZY) _ _ _ _
 rw[← hX]
 clear hX HX fY y0 y1 y2 y3 lY
 obtain⟨lt,c0,c1,c2,c3,fz⟩:=TX
 have at0:=RX.at0
 have lA:=RX.lA
 have OQ:=zH OX
 clear RX OX
 go_region_held3 (fun W'=>W'.cell? ⟨A,0,none⟩=some (.int .i64 (p:Int))) (go_keep) (fail)
 all_goals go_wp2_with fail
 all_goals
  refine bodyPost_ret (v:=.tuple #[.agg #[.int .i64 0,.int .i64 0,.int .i64 0,.string ⟨#[]⟩],.int .i64 (er:Int),.int .i64 ((p:Int)+(rel:Int))]) (by simp[results,Tryz.results39,go_sem,c0,c1,c2,c3]) rfl ⟨rfl,?_⟩
  first | exact (OQ.out.four (Nat.le_refl _) _ _ _ _).trans (Out.drew _) | exact (OQ.out.trans (Out.drew _)).four (Nat.le_refl _) _ _ _ _ | exact OQ.out.four (Nat.le_refl _) _ _ _ _
set_option maxHeartbeats 8000000 in
theorem next_other_tok (A S K m:Nat) (s:ByteArray) (j:Nat) (w:World) (hR:RD w A S K m s j) (hj:j≤s.size) (hs:s.size≤2000) (p:Nat) (hp:p=j+((s.data.toList.drop j).takeWhile isBlank).length) (hlt:p<s.size) (b:UInt8) (hb:s.data.toList[p]?=some b) (hl:isLetter b=false) (hdg:isDigit b=false) (h39:b≠39) (h36:b≠36) (kd n':Nat) (st:Bs) (used:Nat) (h1:one (s.data.toList.drop p)=.tok kd n' st used) :
  Calls Tryz.prog 39 #[.pointer (some ⟨A,0,none⟩),.pointer (some ⟨S,0,none⟩),.pointer (some ⟨K,0,none⟩)] w fun e w'=>NextIs A S K m s p (some (.tok kd n' st used)) e w'∧Out (fun k=>k=A) w w':=by
 have hsl:s.data.toList.length=s.size:=Array.length_toList
 have hps:p≤s.size:=by have:=takeWhile_le isBlank (s.data.toList.drop j);rw[List.length_drop,hsl] at this;omega
 have hjp:j≤p:=by omega
 obtain⟨W0,hW0⟩:∃ W,W=w.alloc (.cells #[.int .i64 0,.int .i64 0,.int .i64 0,.string ⟨#[]⟩] 55):=⟨_,rfl⟩
 have T0:TK W0 w.heap.size 0 0 0 ⟨#[]⟩:=by rw[hW0];exact TK.new w 0 0 0 ⟨#[]⟩ _
 have B0:Below w.heap.size w W0:=by rw[hW0];(repeat (first | exact ext_refl _ | assumption |(refine ext_alloc ?_ _) |(refine ext_drewN ?_ _) | refine ext_drew ?_ |(refine ext_set (by first |(simp;done) |(simp;omega)) _ ?_) |(refine ext_trans ?_ (by assumption))))
 have hs0:W0.heap.size=w.heap.size+1:=by rw[hW0];simp
 have R0:RD W0 A S K m s j:=hR.on B0
 have hAZ:A<w.heap.size:=hR.lA
 have HN6:=zH (And.intro hR.lA (And.intro hR.lS (And.intro hR.lK hR.lm)))
 have HW:=zH hW0
 have hjs:(j:Int)≤(s.size:Int):=by omega
 have hj0:(0:Int)≤(j:Int):=by omega
 have hys:(s.extract j s.size).size≤2000:=by rw[← show (s.extract j s.size).data.toList.length=(s.extract j s.size).size from Array.length_toList,rest_data,List.length_drop,hsl];omega
 obtain⟨n,hn⟩:∃ n,n=((s.data.toList.drop j).takeWhile isBlank).length:=⟨_,rfl⟩
 rw[← hn] at hp
 have C0:=zH (fun W=>(span_blank (s.extract j s.size) W hys).mono fun e w' (h:_∧_)=>(⟨by rw[h.1,rest_data,← hn],by rw[h.2];exact Below.refl _ _⟩:e=.returned (.int .i64 (n:Int))∧Below W.heap.size W w'))
 have HP:=zH hp
 have HN:=zH hn
 clear hW0 hn hR
 go_enter Tryz.func39,Tryz.ntmps39
 go_upto_region 1 with fail
 rw[← HW.out]
 clear HW
 have r0:=fun (z:After W0)=>(z.cell A 0 R0.lA).trans R0.at0
 have r1:=fun (z:After W0)=>(z.cell S 0 R0.lS).trans R0.sC
 have is:=After.some W0
 clear hp
 refine wp_region_after_tail 6 (by kernel_rfl) (by kernel_rfl) ?_
 simp only[List.take_succ_cons,List.take_zero,List.drop_succ_cons,List.drop_zero]
 repeat (quiet_step ((go_at_call 40;exact calls_after (C0.out _))))
 refine wpQuiet_nil ?_
 intro W1 hw
 have hb1:Below W0.heap.size W0 W1:=by obtain⟨x,rfl⟩:=hw;exact x.below
 clear r0 r1 is hw C0
 have R1:=R0.on hb1
 have T1:=T0.on hb1
 have hs1:w.heap.size<W1.heap.size:=T1.lt
 have B1:Below w.heap.size w W1:=B0.trans (hb1.mono B0.size)
 have at0:=R1.at0
 have fA:=R1.fA
 have lA:=R1.lA
 have R2:=R1.set p
 have T2:=T1.set (p:=⟨A,0,none⟩) (by show A≠w.heap.size;omega) (.int .i64 (p:Int))
 have O2:Out (fun k=>k=A) w (W1.setCell ⟨A,0,none⟩ (.int .i64 (p:Int))):=(Out.of B1).trans (Out.set _ _ rfl)
 have e1:(j:Int)+(n:Int)=(p:Int):=by have:=HP.out;omega
 have hpi:(p:Int)≤9223372036854775807:=by omega
 have HF:=zH (And.intro R2 (And.intro T2 O2))
 clear R0 T0 B0 hb1 R1 T1 B1 R2 T2 O2
 go_upto_region 2 with fail
 obtain⟨U,hU⟩:∃ U,U=W1.setCell ⟨A,0,none⟩ (.int .i64 (p:Int)):=⟨_,rfl⟩
 rw[← hU] at HF
 rw[← hU]
 clear hU at0 fA lA e1
 have at0:=HF.out.1.at0
 have sC:=HF.out.1.sC
 have hAU:=HF.out.1.lA
 have hSU:=HF.out.1.lS
 have z1:((p:Int) == (s.size:Int))=false:=by rw[beq_eq_false_iff_ne];omega
 have hpl:(p:Int)≤(s.size:Int):=by omega
 have hb0:(s.extract p s.size).data.toList[0]?=some b:=by rw[rest_data,List.getElem?_drop];exact hb
 go_upto_region 7 with fail
 have TV:=TK.new U 0 0 0 ⟨#[]⟩ 55
 have BV:Below U.heap.size U (U.alloc (.cells #[.int .i64 0,.int .i64 0,.int .i64 0,.string ⟨#[]⟩] 55)):=ext_alloc (ext_refl _) _
 obtain⟨V,hV⟩:∃ V,V=U.alloc (.cells #[.int .i64 0,.int .i64 0,.int .i64 0,.string ⟨#[]⟩] 55):=⟨_,rfl⟩
 rw[← hV] at TV BV
 rw[← hV]
 obtain⟨Y,hY⟩:∃ Y,Y=U.heap.size:=⟨_,rfl⟩
 have hZY:w.heap.size<Y:=by rw[hY];exact HF.out.2.1.lt
 have RV:=HF.out.1.on BV
 have TZ:=HF.out.2.1.on BV
 have OV:Out (fun k=>k=A) w V:=HF.out.2.2.trans (Out.of BV)
 rw[← hY] at TV
 rw[← hY]
 have HN5:=zH (show A<Y∧S<Y∧K<Y∧m<Y by have:=HN6.out;omega)
 have nYZ:Y≠w.heap.size:=by omega
 have nZY:w.heap.size≠Y:=by omega
 have nAY:A≠Y:=by omega
 have nYA:Y≠A:=by omega
 have nAZ:A≠w.heap.size:=by omega
 have nZA:w.heap.size≠A:=by omega
 have hd:s.data.toList.drop p=b :: s.data.toList.drop (p+1):=by
  obtain⟨h1,rfl⟩:=List.getElem?_eq_some_iff.1 hb
  exact List.drop_eq_getElem_cons h1
 have HG:=zH (And.intro RV (And.intro TZ (And.intro TV OV)))
 clear hV hY BV at0 sC hAU hSU TV RV TZ OV HF
 have at0:=HG.out.1.at0
 have sC:=HG.out.1.sC
 have hAV:=HG.out.1.lA
 have hSV:=HG.out.1.lS
 go_upto_region 8 with fail
 obtain⟨x,hx⟩:∃ x,x=s.extract p s.size:=⟨_,rfl⟩
 have hxd:x.data.toList=s.data.toList.drop p:=by rw[hx,rest_data]
 have hxs:x.size≤2000:=by rw[← show x.data.toList.length=x.size from Array.length_toList,hxd,List.length_drop,hsl];omega
 rw[← hx] at hb0
 rw[← hx]
 obtain⟨p4,p5⟩:=byt_data hb0
 have eb:=(byt_at x 0 p4).trans p5
 have p6:(0:Int)<(x.size:Int):=by omega
 clear p5 hx at0 sC
 have hone:one (s.data.toList.drop p)=oneSign (s.data.toList.drop p):=by rw[hd,one_cons,hl,hdg,if_neg (by simp),if_neg (by simp),if_neg h39,if_neg h36,← hd]
 have CK:=zH (lsign_any x V HG.out.1.vars)
 rw[hxd,← hone] at CK
 have m39:((b.toNat:Int) == 39)=false:=by
  rw[beq_eq_false_iff_ne]
  intro h
  exact h39 (UInt8.toNat_inj.1 (by have:b.toNat=39:=(by omega);rw[this];rfl))
 have m36:((b.toNat:Int) == 36)=false:=by
  rw[beq_eq_false_iff_ne]
  intro h
  exact h36 (UInt8.toNat_inj.1 (by have:b.toNat=36:=(by omega);rw[this];rfl))
 clear h39 h36
 clear hone
 rw[h1] at CK
 have hrl:=(one_used h1).2
 rw[List.length_drop,hsl] at hrl
 have hwr:IntKind.i64.wrap ((p:Int)+(used:Int))=(p:Int)+(used:Int):=by rw[IntKind.wrap_i64];omega
 clear h1 hd
 generalize s.extract j s.size=dead1
 generalize IntKind.i64.wrap ((j:Int)+(n:Int))=dead2
 clear hj hs hjp hs0 hjs hj0 hys HP HN hs1 z1 hb hb0
 go_wp2_with fail
 refine (lletter_any b _ rfl _).mono ?_
 rintro e w9 ⟨rfl,hw9⟩
 rw[hw9]
 clear hw9
 rw[hl]
 go_wp2_with fail
 refine (ldigit_any b _ rfl _).mono ?_
 rintro e w9 ⟨rfl,hw9⟩
 rw[hw9]
 clear hw9
 rw[hdg]
 go_wp2_with fail
 refine (CK.out).mono ?_
 rintro e w2 ⟨rfl,hb2⟩
 have HX:=zH (And.intro (HG.out.1.on hb2) (And.intro (HG.out.2.1.on hb2) (And.intro (HG.out.2.2.1.on hb2) (HG.out.2.2.2.trans (Out.of hb2)))))
 have fY:=HX.out.2.2.1.fz
 have y0:=HX.out.2.2.1.c0
 have y1:=HX.out.2.2.1.c1
 have y2:=HX.out.2.2.1.c2
 have y3:=HX.out.2.2.1.c3
 have lY:=HX.out.2.2.1.lt
 clear hb2 CK
 go_upto_region 20 with fail
 obtain⟨X,hX⟩:∃ X,X=((((w2.setCell ⟨Y,0,none⟩ (.int .i64 (kd:Int))).setCell ⟨Y,1,none⟩ (.int .i64 (n':Int))).setCell ⟨Y,2,none⟩ (.int .i64 0)).setCell ⟨Y,3,none⟩ (.string (bsB st))):=⟨_,rfl⟩
 have RX:RD X A S K m s p:=by rw[hX];exact (((HX.out.1.setO HN5.out 0 _).setO HN5.out 1 _).setO HN5.out 2 _).setO HN5.out 3 _
 have TX:TK X w.heap.size 0 0 0 ⟨#[]⟩:=by rw[hX];exact (((HX.out.2.1.set (p:=⟨Y,0,none⟩) nYZ _).set (p:=⟨Y,1,none⟩) nYZ _).set (p:=⟨Y,2,none⟩) nYZ _).set (p:=⟨Y,3,none⟩) nYZ _
 have YX:TK X Y kd n' 0 (bsB st):=by rw[hX];exact HX.out.2.2.1.all _ _ _ _
 have OX:Out (fun k=>k=A) w X:=by rw[hX];exact HX.out.2.2.2.four (Nat.le_of_lt hZY) _ _ _ _
 rw[← hX]
 clear hX HX fY y0 y1 y2 y3 lY
 have HZ:=zH (And.intro RX (And.intro OX TX))
 obtain⟨lt,c0,c1,c2,c3,fz⟩:=TX
 obtain⟨lY,y0,y1,y2,y3,fY⟩:=YX
 have at0:=RX.at0
 have fA:=RX.fA
 have lA:=RX.lA
 clear RX OX
 go_wp2_with fail
 clear lt c0 c1 c2 c3 fz lY y0 y1 y2 y3 fY at0 fA lA
 obtain⟨T,hT⟩:∃ T,T=((((((X.setCell ⟨Y,2,none⟩ (.int .i64 (p:Int))).setCell ⟨A,0,none⟩ (.int .i64 ((p:Int)+(used:Int)))).setCell ⟨w.heap.size,0,none⟩ (.int .i64 (kd:Int))).setCell ⟨w.heap.size,1,none⟩ (.int .i64 (n':Int))).setCell ⟨w.heap.size,2,none⟩ (.int .i64 (p:Int))).setCell ⟨w.heap.size,3,none⟩ (.string (bsB st))):=⟨_,rfl⟩
 have OT:Out (fun k=>k=A) w T:=by rw[hT];exact (((HZ.out.2.1.setNew (p:=⟨Y,2,none⟩) (Nat.le_of_lt hZY) _).trans (Out.set _ _ rfl))).four (Nat.le_refl _) _ _ _ _
 have RT:RD T A S K m s (p+used):=by rw[hT];exact ((((((HZ.out.1.setO HN5.out 2 _).setA (i:=p+used) (by omega)).setO HN6.out 0 _).setO HN6.out 1 _).setO HN6.out 2 _).setO HN6.out 3 _)
 have TT:TK T w.heap.size kd n' p (bsB st):=by rw[hT];exact ((HZ.out.2.2.set (p:=⟨Y,2,none⟩) nYZ _).set (p:=⟨A,0,none⟩) nAZ _).all _ _ _ _
 obtain⟨-,t0,t1,t2,t3,-⟩:=TT
 rw[← hT]
 clear hT HZ
 refine bodyPost_ret (v:=.tuple #[.agg #[.int .i64 (kd:Int),.int .i64 (n':Int),.int .i64 (p:Int),.string (bsB st)],.int .i64 0,.int .i64 0]) (by simp[results,Tryz.results39,go_sem,t0,t1,t2,t3]) rfl ⟨⟨rfl,RT⟩,OT⟩
end Go.Proofs.YtapbglhjamddbaaGreatDoor
