/- A part of the proof. -/
import Derived.Test.YtapbglhjamddbaaGreatDoorRpE
import Derived.Deep.CutBlock
import Derived.Test.YtapbglhjamddbaaGreatDoorHd
set_option linter.unusedSimpArgs false
set_option linter.unusedVariables false
namespace Go.Proofs.YtapbglhjamddbaaGreatDoor
open Go.RowKit Go.Deep
set_option maxRecDepth 100000
set_option maxHeartbeats 8000000 in
theorem ratom_num (p z k:Nat) (T:List Tok) (orr:Rd Ex) (n a:Nat) (s:Bs) (r:List Tok) (w:World) (h:RO w p z T (⟨3,n,a,s⟩ :: r) k) (res:PR Ex) (hq:bAtom z orr (⟨3,n,a,s⟩ :: r)=res):Calls Tryz.prog 138 #[.pointer (some ⟨p,0,none⟩)] w (RAns ExV ShE p z T k res w):=by
 have hwf:=h.toks.wf ⟨3,n,a,s⟩ (List.mem_cons_self ..)
 have hn9:n≤9223372036854775807:=hwf.num
 have hs9:s.length≤40:=hwf.text
 have HRES:=zH (show res=.ok (exKon ⟨1,n,⟨#[]⟩⟩) r from by rw[← hq];exact (by rw[bAtom];simp))
 have HWF:=zH (And.intro hn9 hs9)
 clear hwf hq hn9 hs9
 have lp:=h.lt
 obtain⟨A,hA⟩:∃ A,A=w.alloc (.cells #[.int .i64 0,.int .i64 0,.int .i64 0,.string ⟨#[]⟩,.int .i64 0,.int .i64 0,.int .i64 0,.string ⟨#[]⟩,.slice none 0 0] 44):=⟨_,rfl⟩
 have b0:Below w.heap.size w A:=by rw[hA];exact ext_alloc (ext_refl _) _
 have N0:BkA A w.heap.size zExpr:=by rw[hA];exact BkA.new w zExpr 44
 have hRA:=h.below b0
 obtain⟨j0,pl0,e0,hs0⟩:=hRA.st
 have C:=zH (rhere_any p z T j0 0 pl0 k A hs0)
 rw[← e0] at C
 replace C:Hid (Calls Tryz.prog 28 #[.pointer (some ⟨p,0,none⟩)] A fun e w'=>e=.returned (.agg #[.int .i64 3,.int .i64 (n:Int),.int .i64 (a:Int),.string (bsB s)])∧Below A.heap.size A w'):=C
 have HRA:=zH hRA
 have HN:=zH N0
 have HB:=zH b0
 have HA:=zH hA
 have hpA:=Nat.lt_of_lt_of_le lp b0.size
 clear h b0 N0 hA hRA e0 hs0
 go_enter Tryz.func138,Tryz.ntmps138
 go_upto_region 1 with fail
 rw[← HA.out]
 obtain⟨gr,hgr⟩:∃ g,g=w.heap.size:=⟨_,rfl⟩
 have HGR:=zH hgr
 rw[← hgr] at HN ⊢
 have hpr:p<gr:=by omega
 clear HA hgr
 go_wp2_with fail
 refine C.out.mono ?_
 rintro e V ⟨rfl,hb⟩
 obtain⟨Y,hY⟩:∃ V0,V0=V.alloc (.cells #[.int .i64 3,.int .i64 (n:Int),.int .i64 (a:Int),.string (bsB s)] 82):=⟨_,rfl⟩
 have bY:Below V.heap.size V Y:=by rw[hY];exact ext_alloc (ext_refl _) _
 have kY:BkA Y V.heap.size [.int .i64 3,.int .i64 (n:Int),.int .i64 (a:Int),.string (bsB s)]:=by rw[hY];exact BkA.new V [.int .i64 3,.int .i64 (n:Int),.int .i64 (a:Int),.string (bsB s)] 82
 have hpV:=(HRA.out.below hb).lt
 obtain⟨j,c1,hj,fz,lpY,c3,hR1⟩:=((HRA.out.below hb).below bY).next
 have hw:=wrapj hj
 obtain⟨Y1,hY1⟩:∃ V0,V0=Y.setCell ⟨p,1,none⟩ (.int .i64 ((j:Int)+1)):=⟨_,rfl⟩
 have o1:Out (fun j=>j=p) Y Y1:=by rw[hY1];exact out_p _ _ _ _
 replace hR1:RO Y1 p z T r k:=by rw[hY1];exact hR1
 have hgV:gr<V.heap.size:=Nat.lt_of_lt_of_le HN.out.lt hb.size
 have TG:=zH (kY.outs o1 (by omega))
 have RG:=zH (((HN.out.on hb).on bY).outs o1 (by omega))
 have OG:=zH ((((Out.of (S:=fun j=>j=p∨w.heap.size≤j) HB.out).trans (Out.of hb)).trans (Out.of bY)).trans (o1.up (N:=w.heap.size)))
 have HR1:=zH hR1
 have HY:=zH hY
 have HY1:=zH hY1
 have HJ:=zH hj
 clear hb hY bY kY hY1 o1 hR1 C hj HN
 go_upto_region 2 with fail
 rw[← HY.out]
 clear HY
 obtain⟨gt,hgt⟩:∃ g,g=V.heap.size:=⟨_,rfl⟩
 rw[← hgt] at TG hgV ⊢
 clear hgt
 go_upto_block 0 with fail
 rw[← HY1.out]
 have HZ:=zH HY1
 clear HY1 c1 fz c3 lpY hw
 have t0:=TG.out.c 0 _ rfl
 have t1:=TG.out.c 1 _ rfl
 have t3:=TG.out.c 3 _ rfl
 have tl:=TG.out.lt
 have W0:=zH (rconst_any ⟨1,n,⟨#[]⟩⟩ Y1)
 go_wp2_with fail
 refine W0.out.mono ?_
 rintro e0 V0 ⟨rfl,hb0⟩
 have RG0:=zH (RG.out.on hb0)
 have OG0:=zH (OG.out.trans (Out.of hb0))
 have HR_0:=zH (HR1.out.below hb0)
 clear hb0 W0
 clear t0 t1 t3 tl
 have qx:=RG0.out
 obtain⟨u0,u1,u2,u3,u4,u5,u6,u7,u8⟩:=qx.c9_ rfl
 have zl:=qx.lt
 have zf:=qx.fz
 have o9:=out9 V0 gr (.int .i64 1) (.int .i64 1) (.int .i64 n) (.string ⟨#[]⟩) (.int .i64 0) (.int .i64 0) (.int .i64 0) (.string ⟨#[]⟩) (.slice none 0 0)
 have HO9:=zH (Out.down ((OG0.out).trans (o9.mono fun j _ (hj:j=gr)=>.inr (by have:=HGR.out;omega))))
 have HRO:=zH (HR_0.out.outs o9 (fun j (hj:j=gr)=>by omega))
 clear qx o9
 go_wp2_with fail
 exact bodyPost_ret (v:=.agg #[.int .i64 1,.int .i64 1,.int .i64 n,.string ⟨#[]⟩,.int .i64 0,.int .i64 0,.int .i64 0,.string ⟨#[]⟩,.slice none 0 0]) (by simp[results,Tryz.results138,go_sem,zeroVal,u0,u1,u2,u3,u4,u5,u6,u7,u8]) rfl (RAns.mkOk HRES.out HO9.out (shE ⟨1,⟨1,n,⟨#[]⟩⟩,0,0,0,⟨#[]⟩,none,0,0⟩) ⟨⟨1,⟨1,n,⟨#[]⟩⟩,0,0,0,⟨#[]⟩,none,0,0⟩,rfl,leaf_ex _ _ 1 ⟨1,n,⟨#[]⟩⟩ 0 ⟨#[]⟩ ⟨rfl,inR_nat HWF.out.1,Nat.zero_le _⟩⟩ HRO.out)
set_option maxHeartbeats 8000000 in
theorem ratom_text (p z k:Nat) (T:List Tok) (orr:Rd Ex) (n a:Nat) (s:Bs) (r:List Tok) (w:World) (h:RO w p z T (⟨4,n,a,s⟩ :: r) k) (res:PR Ex) (hq:bAtom z orr (⟨4,n,a,s⟩ :: r)=res):Calls Tryz.prog 138 #[.pointer (some ⟨p,0,none⟩)] w (RAns ExV ShE p z T k res w):=by
 have hwf:=h.toks.wf ⟨4,n,a,s⟩ (List.mem_cons_self ..)
 have hn9:n≤9223372036854775807:=hwf.num
 have hs9:s.length≤40:=hwf.text
 have HRES:=zH (show res=.ok (exKon (txtV s)) r from by rw[← hq];exact (by rw[bAtom];simp))
 have HWF:=zH (And.intro hn9 hs9)
 clear hwf hq hn9 hs9
 have lp:=h.lt
 obtain⟨A,hA⟩:∃ A,A=w.alloc (.cells #[.int .i64 0,.int .i64 0,.int .i64 0,.string ⟨#[]⟩,.int .i64 0,.int .i64 0,.int .i64 0,.string ⟨#[]⟩,.slice none 0 0] 44):=⟨_,rfl⟩
 have b0:Below w.heap.size w A:=by rw[hA];exact ext_alloc (ext_refl _) _
 have N0:BkA A w.heap.size zExpr:=by rw[hA];exact BkA.new w zExpr 44
 have hRA:=h.below b0
 obtain⟨j0,pl0,e0,hs0⟩:=hRA.st
 have C:=zH (rhere_any p z T j0 0 pl0 k A hs0)
 rw[← e0] at C
 replace C:Hid (Calls Tryz.prog 28 #[.pointer (some ⟨p,0,none⟩)] A fun e w'=>e=.returned (.agg #[.int .i64 4,.int .i64 (n:Int),.int .i64 (a:Int),.string (bsB s)])∧Below A.heap.size A w'):=C
 have HRA:=zH hRA
 have HN:=zH N0
 have HB:=zH b0
 have HA:=zH hA
 have hpA:=Nat.lt_of_lt_of_le lp b0.size
 clear h b0 N0 hA hRA e0 hs0
 go_enter Tryz.func138,Tryz.ntmps138
 go_upto_region 1 with fail
 rw[← HA.out]
 obtain⟨gr,hgr⟩:∃ g,g=w.heap.size:=⟨_,rfl⟩
 have HGR:=zH hgr
 rw[← hgr] at HN ⊢
 have hpr:p<gr:=by omega
 clear HA hgr
 go_wp2_with fail
 refine C.out.mono ?_
 rintro e V ⟨rfl,hb⟩
 obtain⟨Y,hY⟩:∃ V0,V0=V.alloc (.cells #[.int .i64 4,.int .i64 (n:Int),.int .i64 (a:Int),.string (bsB s)] 82):=⟨_,rfl⟩
 have bY:Below V.heap.size V Y:=by rw[hY];exact ext_alloc (ext_refl _) _
 have kY:BkA Y V.heap.size [.int .i64 4,.int .i64 (n:Int),.int .i64 (a:Int),.string (bsB s)]:=by rw[hY];exact BkA.new V [.int .i64 4,.int .i64 (n:Int),.int .i64 (a:Int),.string (bsB s)] 82
 have hpV:=(HRA.out.below hb).lt
 obtain⟨j,c1,hj,fz,lpY,c3,hR1⟩:=((HRA.out.below hb).below bY).next
 have hw:=wrapj hj
 obtain⟨Y1,hY1⟩:∃ V0,V0=Y.setCell ⟨p,1,none⟩ (.int .i64 ((j:Int)+1)):=⟨_,rfl⟩
 have o1:Out (fun j=>j=p) Y Y1:=by rw[hY1];exact out_p _ _ _ _
 replace hR1:RO Y1 p z T r k:=by rw[hY1];exact hR1
 have hgV:gr<V.heap.size:=Nat.lt_of_lt_of_le HN.out.lt hb.size
 have TG:=zH (kY.outs o1 (by omega))
 have RG:=zH (((HN.out.on hb).on bY).outs o1 (by omega))
 have OG:=zH ((((Out.of (S:=fun j=>j=p∨w.heap.size≤j) HB.out).trans (Out.of hb)).trans (Out.of bY)).trans (o1.up (N:=w.heap.size)))
 have HR1:=zH hR1
 have HY:=zH hY
 have HY1:=zH hY1
 have HJ:=zH hj
 clear hb hY bY kY hY1 o1 hR1 C hj HN
 go_upto_region 2 with fail
 rw[← HY.out]
 clear HY
 obtain⟨gt,hgt⟩:∃ g,g=V.heap.size:=⟨_,rfl⟩
 rw[← hgt] at TG hgV ⊢
 clear hgt
 go_upto_block 0 with fail
 rw[← HY1.out]
 have HZ:=zH HY1
 clear HY1 c1 fz c3 lpY hw
 have t0:=TG.out.c 0 _ rfl
 have t1:=TG.out.c 1 _ rfl
 have t3:=TG.out.c 3 _ rfl
 have tl:=TG.out.lt
 have W0:=zH (rtext_any (bsB s) Y1)
 go_wp2_with fail
 refine W0.out.mono ?_
 rintro e0 V0 ⟨rfl,hb0⟩
 have RG0:=zH (RG.out.on hb0)
 have OG0:=zH (OG.out.trans (Out.of hb0))
 have HR_0:=zH (HR1.out.below hb0)
 clear hb0 W0
 clear t0 t1 t3 tl
 have W1:=zH (rconst_any ⟨3,0,bsB s⟩ V0)
 go_wp2_with fail
 refine W1.out.mono ?_
 rintro e1 V1 ⟨rfl,hb1⟩
 have RG1:=zH (RG0.out.on hb1)
 have OG1:=zH (OG0.out.trans (Out.of hb1))
 have HR_1:=zH (HR_0.out.below hb1)
 clear hb1 W1
 have qx:=RG1.out
 obtain⟨u0,u1,u2,u3,u4,u5,u6,u7,u8⟩:=qx.c9_ rfl
 have zl:=qx.lt
 have zf:=qx.fz
 have o9:=out9 V1 gr (.int .i64 1) (.int .i64 3) (.int .i64 0) (.string (bsB s)) (.int .i64 0) (.int .i64 0) (.int .i64 0) (.string ⟨#[]⟩) (.slice none 0 0)
 have HO9:=zH (Out.down ((OG1.out).trans (o9.mono fun j _ (hj:j=gr)=>.inr (by have:=HGR.out;omega))))
 have HRO:=zH (HR_1.out.outs o9 (fun j (hj:j=gr)=>by omega))
 clear qx o9
 go_wp2_with fail
 exact bodyPost_ret (v:=.agg #[.int .i64 1,.int .i64 3,.int .i64 0,.string (bsB s),.int .i64 0,.int .i64 0,.int .i64 0,.string ⟨#[]⟩,.slice none 0 0]) (by simp[results,Tryz.results138,go_sem,zeroVal,u0,u1,u2,u3,u4,u5,u6,u7,u8]) rfl (RAns.mkOk HRES.out HO9.out (shE ⟨1,⟨3,0,(bsB s)⟩,0,0,0,⟨#[]⟩,none,0,0⟩) ⟨⟨1,⟨3,0,(bsB s)⟩,0,0,0,⟨#[]⟩,none,0,0⟩,rfl,leaf_ex _ _ 1 ⟨3,0,bsB s⟩ 0 ⟨#[]⟩ (okVal_txt HWF.out.2)⟩ HRO.out)
set_option maxHeartbeats 8000000 in
theorem ratom_param (p z k:Nat) (T:List Tok) (orr:Rd Ex) (n a:Nat) (s:Bs) (r:List Tok) (w:World) (h:RO w p z T (⟨5,n,a,s⟩ :: r) k) (res:PR Ex) (hq:bAtom z orr (⟨5,n,a,s⟩ :: r)=res):Calls Tryz.prog 138 #[.pointer (some ⟨p,0,none⟩)] w (RAns ExV ShE p z T k res w):=by
 have hwf:=h.toks.wf ⟨5,n,a,s⟩ (List.mem_cons_self ..)
 have hn9:n≤9223372036854775807:=hwf.num
 have hs9:s.length≤40:=hwf.text
 have HRES:=zH (show res=.ok (.mk 3 zeroVal 0 0 n ⟨#[]⟩ []) r from by rw[← hq];exact (by rw[bAtom];simp))
 have HWF:=zH (And.intro hn9 hs9)
 clear hwf hq hn9 hs9
 have lp:=h.lt
 obtain⟨A,hA⟩:∃ A,A=w.alloc (.cells #[.int .i64 0,.int .i64 0,.int .i64 0,.string ⟨#[]⟩,.int .i64 0,.int .i64 0,.int .i64 0,.string ⟨#[]⟩,.slice none 0 0] 44):=⟨_,rfl⟩
 have b0:Below w.heap.size w A:=by rw[hA];exact ext_alloc (ext_refl _) _
 have N0:BkA A w.heap.size zExpr:=by rw[hA];exact BkA.new w zExpr 44
 have hRA:=h.below b0
 obtain⟨j0,pl0,e0,hs0⟩:=hRA.st
 have C:=zH (rhere_any p z T j0 0 pl0 k A hs0)
 rw[← e0] at C
 replace C:Hid (Calls Tryz.prog 28 #[.pointer (some ⟨p,0,none⟩)] A fun e w'=>e=.returned (.agg #[.int .i64 5,.int .i64 (n:Int),.int .i64 (a:Int),.string (bsB s)])∧Below A.heap.size A w'):=C
 have HRA:=zH hRA
 have HN:=zH N0
 have HB:=zH b0
 have HA:=zH hA
 have hpA:=Nat.lt_of_lt_of_le lp b0.size
 clear h b0 N0 hA hRA e0 hs0
 go_enter Tryz.func138,Tryz.ntmps138
 go_upto_region 1 with fail
 rw[← HA.out]
 obtain⟨gr,hgr⟩:∃ g,g=w.heap.size:=⟨_,rfl⟩
 have HGR:=zH hgr
 rw[← hgr] at HN ⊢
 have hpr:p<gr:=by omega
 clear HA hgr
 go_wp2_with fail
 refine C.out.mono ?_
 rintro e V ⟨rfl,hb⟩
 obtain⟨Y,hY⟩:∃ V0,V0=V.alloc (.cells #[.int .i64 5,.int .i64 (n:Int),.int .i64 (a:Int),.string (bsB s)] 82):=⟨_,rfl⟩
 have bY:Below V.heap.size V Y:=by rw[hY];exact ext_alloc (ext_refl _) _
 have kY:BkA Y V.heap.size [.int .i64 5,.int .i64 (n:Int),.int .i64 (a:Int),.string (bsB s)]:=by rw[hY];exact BkA.new V [.int .i64 5,.int .i64 (n:Int),.int .i64 (a:Int),.string (bsB s)] 82
 have hpV:=(HRA.out.below hb).lt
 obtain⟨j,c1,hj,fz,lpY,c3,hR1⟩:=((HRA.out.below hb).below bY).next
 have hw:=wrapj hj
 obtain⟨Y1,hY1⟩:∃ V0,V0=Y.setCell ⟨p,1,none⟩ (.int .i64 ((j:Int)+1)):=⟨_,rfl⟩
 have o1:Out (fun j=>j=p) Y Y1:=by rw[hY1];exact out_p _ _ _ _
 replace hR1:RO Y1 p z T r k:=by rw[hY1];exact hR1
 have hgV:gr<V.heap.size:=Nat.lt_of_lt_of_le HN.out.lt hb.size
 have TG:=zH (kY.outs o1 (by omega))
 have RG:=zH (((HN.out.on hb).on bY).outs o1 (by omega))
 have OG:=zH ((((Out.of (S:=fun j=>j=p∨w.heap.size≤j) HB.out).trans (Out.of hb)).trans (Out.of bY)).trans (o1.up (N:=w.heap.size)))
 have HR1:=zH hR1
 have HY:=zH hY
 have HY1:=zH hY1
 have HJ:=zH hj
 clear hb hY bY kY hY1 o1 hR1 C hj HN
 go_upto_region 2 with fail
 rw[← HY.out]
 clear HY
 obtain⟨gt,hgt⟩:∃ g,g=V.heap.size:=⟨_,rfl⟩
 rw[← hgt] at TG hgV ⊢
 clear hgt
 go_upto_block 0 with fail
 rw[← HY1.out]
 have HZ:=zH HY1
 clear HY1 c1 fz c3 lpY hw
 have t0:=TG.out.c 0 _ rfl
 have t1:=TG.out.c 1 _ rfl
 have t3:=TG.out.c 3 _ rfl
 have tl:=TG.out.lt
 have qx:=RG.out
 obtain⟨u0,u1,u2,u3,u4,u5,u6,u7,u8⟩:=qx.c9_ rfl
 have zl:=qx.lt
 have zf:=qx.fz
 have o9:=out9 Y1 gr (.int .i64 3) (.int .i64 0) (.int .i64 0) (.string ⟨#[]⟩) (.int .i64 0) (.int .i64 0) (.int .i64 n) (.string ⟨#[]⟩) (.slice none 0 0)
 have HO9:=zH (Out.down ((OG.out).trans (o9.mono fun j _ (hj:j=gr)=>.inr (by have:=HGR.out;omega))))
 have HRO:=zH (HR1.out.outs o9 (fun j (hj:j=gr)=>by omega))
 clear qx o9
 go_wp2_with fail
 exact bodyPost_ret (v:=.agg #[.int .i64 3,.int .i64 0,.int .i64 0,.string ⟨#[]⟩,.int .i64 0,.int .i64 0,.int .i64 n,.string ⟨#[]⟩,.slice none 0 0]) (by simp[results,Tryz.results138,go_sem,zeroVal,u0,u1,u2,u3,u4,u5,u6,u7,u8]) rfl (RAns.mkOk HRES.out HO9.out (shE ⟨3,⟨0,0,⟨#[]⟩⟩,0,0,n,⟨#[]⟩,none,0,0⟩) ⟨⟨3,⟨0,0,⟨#[]⟩⟩,0,0,n,⟨#[]⟩,none,0,0⟩,rfl,leaf_ex _ _ 3 zeroVal n ⟨#[]⟩ okVal_zer⟩ HRO.out)
set_option maxHeartbeats 8000000 in
theorem ratom_true (p z k:Nat) (T:List Tok) (orr:Rd Ex) (n a:Nat) (s:Bs) (r:List Tok) (w:World) (h:RO w p z T (⟨1,n,a,s⟩ :: r) k) (hs_kwTrue:(s == kwTrue)=true) (res:PR Ex) (hq:bAtom z orr (⟨1,n,a,s⟩ :: r)=res):Calls Tryz.prog 138 #[.pointer (some ⟨p,0,none⟩)] w (RAns ExV ShE p z T k res w):=by
 have hwf:=h.toks.wf ⟨1,n,a,s⟩ (List.mem_cons_self ..)
 have hn9:n≤9223372036854775807:=hwf.num
 have hs9:s.length≤40:=hwf.text
 have HRES:=zH (show res=.ok (exKon ⟨2,1,⟨#[]⟩⟩) r from by rw[← hq];exact (by rw[bAtom];simp[(sees_word (s:=kwTrue) (by decide) hwf:hSees kwTrue (⟨1,n,a,s⟩ :: r)=_),hs_kwTrue]))
 have HWF:=zH (And.intro hn9 hs9)
 clear hwf hq hn9 hs9
 have lp:=h.lt
 obtain⟨A,hA⟩:∃ A,A=w.alloc (.cells #[.int .i64 0,.int .i64 0,.int .i64 0,.string ⟨#[]⟩,.int .i64 0,.int .i64 0,.int .i64 0,.string ⟨#[]⟩,.slice none 0 0] 44):=⟨_,rfl⟩
 have b0:Below w.heap.size w A:=by rw[hA];exact ext_alloc (ext_refl _) _
 have N0:BkA A w.heap.size zExpr:=by rw[hA];exact BkA.new w zExpr 44
 have hRA:=h.below b0
 obtain⟨j0,pl0,e0,hs0⟩:=hRA.st
 have C:=zH (rhere_any p z T j0 0 pl0 k A hs0)
 rw[← e0] at C
 replace C:Hid (Calls Tryz.prog 28 #[.pointer (some ⟨p,0,none⟩)] A fun e w'=>e=.returned (.agg #[.int .i64 1,.int .i64 (n:Int),.int .i64 (a:Int),.string (bsB s)])∧Below A.heap.size A w'):=C
 have HRA:=zH hRA
 have HN:=zH N0
 have HB:=zH b0
 have HA:=zH hA
 have hpA:=Nat.lt_of_lt_of_le lp b0.size
 clear h b0 N0 hA hRA e0 hs0
 go_enter Tryz.func138,Tryz.ntmps138
 go_upto_region 1 with fail
 rw[← HA.out]
 obtain⟨gr,hgr⟩:∃ g,g=w.heap.size:=⟨_,rfl⟩
 have HGR:=zH hgr
 rw[← hgr] at HN ⊢
 have hpr:p<gr:=by omega
 clear HA hgr
 go_wp2_with fail
 refine C.out.mono ?_
 rintro e V ⟨rfl,hb⟩
 obtain⟨Y,hY⟩:∃ V0,V0=V.alloc (.cells #[.int .i64 1,.int .i64 (n:Int),.int .i64 (a:Int),.string (bsB s)] 82):=⟨_,rfl⟩
 have bY:Below V.heap.size V Y:=by rw[hY];exact ext_alloc (ext_refl _) _
 have kY:BkA Y V.heap.size [.int .i64 1,.int .i64 (n:Int),.int .i64 (a:Int),.string (bsB s)]:=by rw[hY];exact BkA.new V [.int .i64 1,.int .i64 (n:Int),.int .i64 (a:Int),.string (bsB s)] 82
 have hpV:=(HRA.out.below hb).lt
 obtain⟨j,c1,hj,fz,lpY,c3,hR1⟩:=((HRA.out.below hb).below bY).next
 have hw:=wrapj hj
 obtain⟨Y1,hY1⟩:∃ V0,V0=Y.setCell ⟨p,1,none⟩ (.int .i64 ((j:Int)+1)):=⟨_,rfl⟩
 have o1:Out (fun j=>j=p) Y Y1:=by rw[hY1];exact out_p _ _ _ _
 replace hR1:RO Y1 p z T r k:=by rw[hY1];exact hR1
 have hgV:gr<V.heap.size:=Nat.lt_of_lt_of_le HN.out.lt hb.size
 have TG:=zH (kY.outs o1 (by omega))
 have RG:=zH (((HN.out.on hb).on bY).outs o1 (by omega))
 have OG:=zH ((((Out.of (S:=fun j=>j=p∨w.heap.size≤j) HB.out).trans (Out.of hb)).trans (Out.of bY)).trans (o1.up (N:=w.heap.size)))
 have HR1:=zH hR1
 have HY:=zH hY
 have HY1:=zH hY1
 have HJ:=zH hj
 clear hb hY bY kY hY1 o1 hR1 C hj HN
 go_upto_region 2 with fail
 rw[← HY.out]
 clear HY
 obtain⟨gt,hgt⟩:∃ g,g=V.heap.size:=⟨_,rfl⟩
 rw[← hgt] at TG hgV ⊢
 clear hgt
 go_upto_block 0 with fail
 rw[← HY1.out]
 have HZ:=zH HY1
 clear HY1 c1 fz c3 lpY hw
 have t0:=TG.out.c 0 _ rfl
 have t1:=TG.out.c 1 _ rfl
 have t3:=TG.out.c 3 _ rfl
 have tl:=TG.out.lt
 have f_kwTrue:(s == [116,114,117,101])=true:=hs_kwTrue
 clear hs_kwTrue
 have W0:=zH (rconst_any ⟨2,1,⟨#[]⟩⟩ Y1)
 go_wp2_with fail
 refine W0.out.mono ?_
 rintro e0 V0 ⟨rfl,hb0⟩
 have RG0:=zH (RG.out.on hb0)
 have OG0:=zH (OG.out.trans (Out.of hb0))
 have HR_0:=zH (HR1.out.below hb0)
 clear hb0 W0
 clear t0 t1 t3 tl
 have qx:=RG0.out
 obtain⟨u0,u1,u2,u3,u4,u5,u6,u7,u8⟩:=qx.c9_ rfl
 have zl:=qx.lt
 have zf:=qx.fz
 have o9:=out9 V0 gr (.int .i64 1) (.int .i64 2) (.int .i64 1) (.string ⟨#[]⟩) (.int .i64 0) (.int .i64 0) (.int .i64 0) (.string ⟨#[]⟩) (.slice none 0 0)
 have HO9:=zH (Out.down ((OG0.out).trans (o9.mono fun j _ (hj:j=gr)=>.inr (by have:=HGR.out;omega))))
 have HRO:=zH (HR_0.out.outs o9 (fun j (hj:j=gr)=>by omega))
 clear qx o9
 go_wp2_with fail
 exact bodyPost_ret (v:=.agg #[.int .i64 1,.int .i64 2,.int .i64 1,.string ⟨#[]⟩,.int .i64 0,.int .i64 0,.int .i64 0,.string ⟨#[]⟩,.slice none 0 0]) (by simp[results,Tryz.results138,go_sem,zeroVal,u0,u1,u2,u3,u4,u5,u6,u7,u8]) rfl (RAns.mkOk HRES.out HO9.out (shE ⟨1,⟨2,1,⟨#[]⟩⟩,0,0,0,⟨#[]⟩,none,0,0⟩) ⟨⟨1,⟨2,1,⟨#[]⟩⟩,0,0,0,⟨#[]⟩,none,0,0⟩,rfl,leaf_ex _ _ 1 ⟨2,1,⟨#[]⟩⟩ 0 ⟨#[]⟩ ⟨rfl,rfl,Nat.zero_le _⟩⟩ HRO.out)
set_option maxHeartbeats 8000000 in
theorem ratom_false (p z k:Nat) (T:List Tok) (orr:Rd Ex) (n a:Nat) (s:Bs) (r:List Tok) (w:World) (h:RO w p z T (⟨1,n,a,s⟩ :: r) k) (hs_kwTrue:(s == kwTrue)=false) (hs_kwFalse:(s == kwFalse)=true) (res:PR Ex) (hq:bAtom z orr (⟨1,n,a,s⟩ :: r)=res):Calls Tryz.prog 138 #[.pointer (some ⟨p,0,none⟩)] w (RAns ExV ShE p z T k res w):=by
 have hwf:=h.toks.wf ⟨1,n,a,s⟩ (List.mem_cons_self ..)
 have hn9:n≤9223372036854775807:=hwf.num
 have hs9:s.length≤40:=hwf.text
 have HRES:=zH (show res=.ok (exKon ⟨2,0,⟨#[]⟩⟩) r from by rw[← hq];exact (by rw[bAtom];simp[(sees_word (s:=kwTrue) (by decide) hwf:hSees kwTrue (⟨1,n,a,s⟩ :: r)=_),(sees_word (s:=kwFalse) (by decide) hwf:hSees kwFalse (⟨1,n,a,s⟩ :: r)=_),hs_kwTrue,hs_kwFalse]))
 have HWF:=zH (And.intro hn9 hs9)
 clear hwf hq hn9 hs9
 have lp:=h.lt
 obtain⟨A,hA⟩:∃ A,A=w.alloc (.cells #[.int .i64 0,.int .i64 0,.int .i64 0,.string ⟨#[]⟩,.int .i64 0,.int .i64 0,.int .i64 0,.string ⟨#[]⟩,.slice none 0 0] 44):=⟨_,rfl⟩
 have b0:Below w.heap.size w A:=by rw[hA];exact ext_alloc (ext_refl _) _
 have N0:BkA A w.heap.size zExpr:=by rw[hA];exact BkA.new w zExpr 44
 have hRA:=h.below b0
 obtain⟨j0,pl0,e0,hs0⟩:=hRA.st
 have C:=zH (rhere_any p z T j0 0 pl0 k A hs0)
 rw[← e0] at C
 replace C:Hid (Calls Tryz.prog 28 #[.pointer (some ⟨p,0,none⟩)] A fun e w'=>e=.returned (.agg #[.int .i64 1,.int .i64 (n:Int),.int .i64 (a:Int),.string (bsB s)])∧Below A.heap.size A w'):=C
 have HRA:=zH hRA
 have HN:=zH N0
 have HB:=zH b0
 have HA:=zH hA
 have hpA:=Nat.lt_of_lt_of_le lp b0.size
 clear h b0 N0 hA hRA e0 hs0
 go_enter Tryz.func138,Tryz.ntmps138
 go_upto_region 1 with fail
 rw[← HA.out]
 obtain⟨gr,hgr⟩:∃ g,g=w.heap.size:=⟨_,rfl⟩
 have HGR:=zH hgr
 rw[← hgr] at HN ⊢
 have hpr:p<gr:=by omega
 clear HA hgr
 go_wp2_with fail
 refine C.out.mono ?_
 rintro e V ⟨rfl,hb⟩
 obtain⟨Y,hY⟩:∃ V0,V0=V.alloc (.cells #[.int .i64 1,.int .i64 (n:Int),.int .i64 (a:Int),.string (bsB s)] 82):=⟨_,rfl⟩
 have bY:Below V.heap.size V Y:=by rw[hY];exact ext_alloc (ext_refl _) _
 have kY:BkA Y V.heap.size [.int .i64 1,.int .i64 (n:Int),.int .i64 (a:Int),.string (bsB s)]:=by rw[hY];exact BkA.new V [.int .i64 1,.int .i64 (n:Int),.int .i64 (a:Int),.string (bsB s)] 82
 have hpV:=(HRA.out.below hb).lt
 obtain⟨j,c1,hj,fz,lpY,c3,hR1⟩:=((HRA.out.below hb).below bY).next
 have hw:=wrapj hj
 obtain⟨Y1,hY1⟩:∃ V0,V0=Y.setCell ⟨p,1,none⟩ (.int .i64 ((j:Int)+1)):=⟨_,rfl⟩
 have o1:Out (fun j=>j=p) Y Y1:=by rw[hY1];exact out_p _ _ _ _
 replace hR1:RO Y1 p z T r k:=by rw[hY1];exact hR1
 have hgV:gr<V.heap.size:=Nat.lt_of_lt_of_le HN.out.lt hb.size
 have TG:=zH (kY.outs o1 (by omega))
 have RG:=zH (((HN.out.on hb).on bY).outs o1 (by omega))
 have OG:=zH ((((Out.of (S:=fun j=>j=p∨w.heap.size≤j) HB.out).trans (Out.of hb)).trans (Out.of bY)).trans (o1.up (N:=w.heap.size)))
 have HR1:=zH hR1
 have HY:=zH hY
 have HY1:=zH hY1
 have HJ:=zH hj
 clear hb hY bY kY hY1 o1 hR1 C hj HN
 go_upto_region 2 with fail
 rw[← HY.out]
 clear HY
 obtain⟨gt,hgt⟩:∃ g,g=V.heap.size:=⟨_,rfl⟩
 rw[← hgt] at TG hgV ⊢
 clear hgt
 go_upto_block 0 with fail
 rw[← HY1.out]
 have HZ:=zH HY1
 clear HY1 c1 fz c3 lpY hw
 have t0:=TG.out.c 0 _ rfl
 have t1:=TG.out.c 1 _ rfl
 have t3:=TG.out.c 3 _ rfl
 have tl:=TG.out.lt
 have f_kwTrue:(s == [116,114,117,101])=false:=hs_kwTrue
 clear hs_kwTrue
 have f_kwFalse:(s == [102,97,108,115,101])=true:=hs_kwFalse
 clear hs_kwFalse
 have W0:=zH (rconst_any ⟨2,0,⟨#[]⟩⟩ Y1)
 go_wp2_with fail
 refine W0.out.mono ?_
 rintro e0 V0 ⟨rfl,hb0⟩
 have RG0:=zH (RG.out.on hb0)
 have OG0:=zH (OG.out.trans (Out.of hb0))
 have HR_0:=zH (HR1.out.below hb0)
 clear hb0 W0
 clear t0 t1 t3 tl
 have qx:=RG0.out
 obtain⟨u0,u1,u2,u3,u4,u5,u6,u7,u8⟩:=qx.c9_ rfl
 have zl:=qx.lt
 have zf:=qx.fz
 have o9:=out9 V0 gr (.int .i64 1) (.int .i64 2) (.int .i64 0) (.string ⟨#[]⟩) (.int .i64 0) (.int .i64 0) (.int .i64 0) (.string ⟨#[]⟩) (.slice none 0 0)
 have HO9:=zH (Out.down ((OG0.out).trans (o9.mono fun j _ (hj:j=gr)=>.inr (by have:=HGR.out;omega))))
 have HRO:=zH (HR_0.out.outs o9 (fun j (hj:j=gr)=>by omega))
 clear qx o9
 go_wp2_with fail
 exact bodyPost_ret (v:=.agg #[.int .i64 1,.int .i64 2,.int .i64 0,.string ⟨#[]⟩,.int .i64 0,.int .i64 0,.int .i64 0,.string ⟨#[]⟩,.slice none 0 0]) (by simp[results,Tryz.results138,go_sem,zeroVal,u0,u1,u2,u3,u4,u5,u6,u7,u8]) rfl (RAns.mkOk HRES.out HO9.out (shE ⟨1,⟨2,0,⟨#[]⟩⟩,0,0,0,⟨#[]⟩,none,0,0⟩) ⟨⟨1,⟨2,0,⟨#[]⟩⟩,0,0,0,⟨#[]⟩,none,0,0⟩,rfl,leaf_ex _ _ 1 ⟨2,0,⟨#[]⟩⟩ 0 ⟨#[]⟩ ⟨rfl,rfl,Nat.zero_le _⟩⟩ HRO.out)
set_option maxHeartbeats 8000000 in
theorem ratom_null (p z k:Nat) (T:List Tok) (orr:Rd Ex) (n a:Nat) (s:Bs) (r:List Tok) (w:World) (h:RO w p z T (⟨1,n,a,s⟩ :: r) k) (hs_kwTrue:(s == kwTrue)=false) (hs_kwFalse:(s == kwFalse)=false) (hs_kwNull:(s == kwNull)=true) (res:PR Ex) (hq:bAtom z orr (⟨1,n,a,s⟩ :: r)=res):Calls Tryz.prog 138 #[.pointer (some ⟨p,0,none⟩)] w (RAns ExV ShE p z T k res w):=by
 have hwf:=h.toks.wf ⟨1,n,a,s⟩ (List.mem_cons_self ..)
 have hn9:n≤9223372036854775807:=hwf.num
 have hs9:s.length≤40:=hwf.text
 have HRES:=zH (show res=.ok (exKon zeroVal) r from by rw[← hq];exact (by rw[bAtom];simp[(sees_word (s:=kwTrue) (by decide) hwf:hSees kwTrue (⟨1,n,a,s⟩ :: r)=_),(sees_word (s:=kwFalse) (by decide) hwf:hSees kwFalse (⟨1,n,a,s⟩ :: r)=_),(sees_word (s:=kwNull) (by decide) hwf:hSees kwNull (⟨1,n,a,s⟩ :: r)=_),hs_kwTrue,hs_kwFalse,hs_kwNull]))
 have HWF:=zH (And.intro hn9 hs9)
 clear hwf hq hn9 hs9
 have lp:=h.lt
 obtain⟨A,hA⟩:∃ A,A=w.alloc (.cells #[.int .i64 0,.int .i64 0,.int .i64 0,.string ⟨#[]⟩,.int .i64 0,.int .i64 0,.int .i64 0,.string ⟨#[]⟩,.slice none 0 0] 44):=⟨_,rfl⟩
 have b0:Below w.heap.size w A:=by rw[hA];exact ext_alloc (ext_refl _) _
 have N0:BkA A w.heap.size zExpr:=by rw[hA];exact BkA.new w zExpr 44
 have hRA:=h.below b0
 obtain⟨j0,pl0,e0,hs0⟩:=hRA.st
 have C:=zH (rhere_any p z T j0 0 pl0 k A hs0)
 rw[← e0] at C
 replace C:Hid (Calls Tryz.prog 28 #[.pointer (some ⟨p,0,none⟩)] A fun e w'=>e=.returned (.agg #[.int .i64 1,.int .i64 (n:Int),.int .i64 (a:Int),.string (bsB s)])∧Below A.heap.size A w'):=C
 have HRA:=zH hRA
 have HN:=zH N0
 have HB:=zH b0
 have HA:=zH hA
 have hpA:=Nat.lt_of_lt_of_le lp b0.size
 clear h b0 N0 hA hRA e0 hs0
 go_enter Tryz.func138,Tryz.ntmps138
 go_upto_region 1 with fail
 rw[← HA.out]
 obtain⟨gr,hgr⟩:∃ g,g=w.heap.size:=⟨_,rfl⟩
 have HGR:=zH hgr
 rw[← hgr] at HN ⊢
 have hpr:p<gr:=by omega
 clear HA hgr
 go_wp2_with fail
 refine C.out.mono ?_
 rintro e V ⟨rfl,hb⟩
 obtain⟨Y,hY⟩:∃ V0,V0=V.alloc (.cells #[.int .i64 1,.int .i64 (n:Int),.int .i64 (a:Int),.string (bsB s)] 82):=⟨_,rfl⟩
 have bY:Below V.heap.size V Y:=by rw[hY];exact ext_alloc (ext_refl _) _
 have kY:BkA Y V.heap.size [.int .i64 1,.int .i64 (n:Int),.int .i64 (a:Int),.string (bsB s)]:=by rw[hY];exact BkA.new V [.int .i64 1,.int .i64 (n:Int),.int .i64 (a:Int),.string (bsB s)] 82
 have hpV:=(HRA.out.below hb).lt
 obtain⟨j,c1,hj,fz,lpY,c3,hR1⟩:=((HRA.out.below hb).below bY).next
 have hw:=wrapj hj
 obtain⟨Y1,hY1⟩:∃ V0,V0=Y.setCell ⟨p,1,none⟩ (.int .i64 ((j:Int)+1)):=⟨_,rfl⟩
 have o1:Out (fun j=>j=p) Y Y1:=by rw[hY1];exact out_p _ _ _ _
 replace hR1:RO Y1 p z T r k:=by rw[hY1];exact hR1
 have hgV:gr<V.heap.size:=Nat.lt_of_lt_of_le HN.out.lt hb.size
 have TG:=zH (kY.outs o1 (by omega))
 have RG:=zH (((HN.out.on hb).on bY).outs o1 (by omega))
 have OG:=zH ((((Out.of (S:=fun j=>j=p∨w.heap.size≤j) HB.out).trans (Out.of hb)).trans (Out.of bY)).trans (o1.up (N:=w.heap.size)))
 have HR1:=zH hR1
 have HY:=zH hY
 have HY1:=zH hY1
 have HJ:=zH hj
 clear hb hY bY kY hY1 o1 hR1 C hj HN
 go_upto_region 2 with fail
 rw[← HY.out]
 clear HY
 obtain⟨gt,hgt⟩:∃ g,g=V.heap.size:=⟨_,rfl⟩
 rw[← hgt] at TG hgV ⊢
 clear hgt
 go_upto_block 0 with fail
 rw[← HY1.out]
 have HZ:=zH HY1
 clear HY1 c1 fz c3 lpY hw
 have t0:=TG.out.c 0 _ rfl
 have t1:=TG.out.c 1 _ rfl
 have t3:=TG.out.c 3 _ rfl
 have tl:=TG.out.lt
 have f_kwTrue:(s == [116,114,117,101])=false:=hs_kwTrue
 clear hs_kwTrue
 have f_kwFalse:(s == [102,97,108,115,101])=false:=hs_kwFalse
 clear hs_kwFalse
 have f_kwNull:(s == [110,117,108,108])=true:=hs_kwNull
 clear hs_kwNull
 have W0:=zH (rconst_any zeroVal Y1)
 go_wp2_with fail
 refine W0.out.mono ?_
 rintro e0 V0 ⟨rfl,hb0⟩
 have RG0:=zH (RG.out.on hb0)
 have OG0:=zH (OG.out.trans (Out.of hb0))
 have HR_0:=zH (HR1.out.below hb0)
 clear hb0 W0
 clear t0 t1 t3 tl
 have qx:=RG0.out
 obtain⟨u0,u1,u2,u3,u4,u5,u6,u7,u8⟩:=qx.c9_ rfl
 have zl:=qx.lt
 have zf:=qx.fz
 have o9:=out9 V0 gr (.int .i64 1) (.int .i64 0) (.int .i64 0) (.string ⟨#[]⟩) (.int .i64 0) (.int .i64 0) (.int .i64 0) (.string ⟨#[]⟩) (.slice none 0 0)
 have HO9:=zH (Out.down ((OG0.out).trans (o9.mono fun j _ (hj:j=gr)=>.inr (by have:=HGR.out;omega))))
 have HRO:=zH (HR_0.out.outs o9 (fun j (hj:j=gr)=>by omega))
 clear qx o9
 go_wp2_with fail
 exact bodyPost_ret (v:=.agg #[.int .i64 1,.int .i64 0,.int .i64 0,.string ⟨#[]⟩,.int .i64 0,.int .i64 0,.int .i64 0,.string ⟨#[]⟩,.slice none 0 0]) (by simp[results,Tryz.results138,go_sem,zeroVal,u0,u1,u2,u3,u4,u5,u6,u7,u8]) rfl (RAns.mkOk HRES.out HO9.out (shE ⟨1,⟨0,0,⟨#[]⟩⟩,0,0,0,⟨#[]⟩,none,0,0⟩) ⟨⟨1,⟨0,0,⟨#[]⟩⟩,0,0,0,⟨#[]⟩,none,0,0⟩,rfl,leaf_ex _ _ 1 zeroVal 0 ⟨#[]⟩ ⟨rfl,rfl,Nat.zero_le _⟩⟩ HRO.out)
set_option maxHeartbeats 8000000 in
theorem ratom_none0 (p z k:Nat) (T:List Tok) (orr:Rd Ex) (n a:Nat) (s:Bs) (l:List Tok) (w:World) (h:RO w p z T l k) (hh:hd z l=⟨0,n,a,s⟩):Calls Tryz.prog 138 #[.pointer (some ⟨p,0,none⟩)] w (RAns ExV ShE p z T k (.err 7 (hAt z l)) w):=by
 have lp:=h.lt
 obtain⟨A,hA⟩:∃ A,A=w.alloc (.cells #[.int .i64 0,.int .i64 0,.int .i64 0,.string ⟨#[]⟩,.int .i64 0,.int .i64 0,.int .i64 0,.string ⟨#[]⟩,.slice none 0 0] 44):=⟨_,rfl⟩
 have b0:Below w.heap.size w A:=by rw[hA];exact ext_alloc (ext_refl _) _
 have N0:BkA A w.heap.size zExpr:=by rw[hA];exact BkA.new w zExpr 44
 have hRA:=h.below b0
 obtain⟨j0,pl0,e0,hs0⟩:=hRA.st
 have C:=zH (rhere_any p z T j0 0 pl0 k A hs0)
 rw[← e0] at C
 replace C:Hid (Calls Tryz.prog 28 #[.pointer (some ⟨p,0,none⟩)] A fun e w'=>e=.returned (.agg #[.int .i64 0,.int .i64 (n:Int),.int .i64 (a:Int),.string (bsB s)])∧Below A.heap.size A w'):=by rw[hh] at C;exact C
 have HRA:=zH hRA
 have HN:=zH N0
 have HB:=zH b0
 have HA:=zH hA
 have hpA:=Nat.lt_of_lt_of_le lp b0.size
 clear h b0 N0 hA hRA e0 hs0
 go_enter Tryz.func138,Tryz.ntmps138
 go_upto_region 1 with fail
 rw[← HA.out]
 obtain⟨gr,hgr⟩:∃ g,g=w.heap.size:=⟨_,rfl⟩
 have HGR:=zH hgr
 rw[← hgr] at HN ⊢
 have hpr:p<gr:=by omega
 clear HA hgr
 go_wp2_with fail
 refine C.out.mono ?_
 rintro e V ⟨rfl,hb⟩
 obtain⟨Y,hY⟩:∃ V0,V0=V.alloc (.cells #[.int .i64 0,.int .i64 (n:Int),.int .i64 (a:Int),.string (bsB s)] 82):=⟨_,rfl⟩
 have bY:Below V.heap.size V Y:=by rw[hY];exact ext_alloc (ext_refl _) _
 have kY:BkA Y V.heap.size [.int .i64 0,.int .i64 (n:Int),.int .i64 (a:Int),.string (bsB s)]:=by rw[hY];exact BkA.new V [.int .i64 0,.int .i64 (n:Int),.int .i64 (a:Int),.string (bsB s)] 82
 have hpV:=(HRA.out.below hb).lt
 obtain⟨j,c1,hj,fz,lpY,c3,hR1⟩:=((HRA.out.below hb).below bY).redo
 have hw:=wrapj hj
 obtain⟨Y1,hY1⟩:∃ V0,V0=Y.setCell ⟨p,1,none⟩ (.int .i64 ((j:Int)+1)):=⟨_,rfl⟩
 have o1:Out (fun j=>j=p) Y Y1:=by rw[hY1];exact out_p _ _ _ _
 replace hR1:RO (Y1.setCell ⟨p,1,none⟩ (.int .i64 (j:Int))) p z T l k:=by rw[hY1];exact hR1
 have hgV:gr<V.heap.size:=Nat.lt_of_lt_of_le HN.out.lt hb.size
 have TG:=zH (kY.outs o1 (by omega))
 have RG:=zH (((HN.out.on hb).on bY).outs o1 (by omega))
 have OG:=zH ((((Out.of (S:=fun j=>j=p∨w.heap.size≤j) HB.out).trans (Out.of hb)).trans (Out.of bY)).trans (o1.up (N:=w.heap.size)))
 have HR1:=zH hR1
 have c1j:Y1.cell? ⟨p,1,none⟩=some (.int .i64 ((j:Int)+1)):=by rw[hY1];exact cell_set_self c1
 have fzj:∀ o,Y1.frozen? ⟨p,o,none⟩=false:=fun o=>by rw[hY1,World.frozen?_setCell];exact fz o
 have lpj:=Nat.lt_of_lt_of_le lpY o1.size
 have HY:=zH hY
 have HY1:=zH hY1
 have HJ:=zH hj
 clear hb hY bY kY hY1 o1 hR1 C hj HN
 go_upto_region 2 with fail
 rw[← HY.out]
 clear HY
 obtain⟨gt,hgt⟩:∃ g,g=V.heap.size:=⟨_,rfl⟩
 rw[← hgt] at TG hgV ⊢
 clear hgt
 go_upto_block 0 with fail
 rw[← HY1.out]
 have HZ:=zH HY1
 clear HY1 c1 fz c3 lpY hw
 have t0:=TG.out.c 0 _ rfl
 have t1:=TG.out.c 1 _ rfl
 have t3:=TG.out.c 3 _ rfl
 have tl:=TG.out.lt
 clear hh
 have hwd:wrap64 (j:Int)=(j:Int):=by have:=HJ.out;unfold wrap64;omega
 obtain⟨M0,hM0⟩:∃ V0,V0=Y1.setCell ⟨p,1,none⟩ (.int .i64 (j:Int)):=⟨_,rfl⟩
 rw[← hM0] at HR1
 have o2:Out (fun j=>j=p) Y1 M0:=by rw[hM0];exact out_p _ _ _ _
 have RM:=zH (RG.out.outs o2 (by omega))
 have OM:=zH (OG.out.trans (o2.up (N:=w.heap.size)))
 have N:=zH (rno_ok 7 (by decide) HR1.out)
 have HM0:=zH hM0
 clear hM0 o2
 go_upto_region 28 with fail
 rw[← HM0.out]
 clear HM0 t0 t1 t3 tl c1j fzj lpj hwd
 go_wp2_with fail
 refine N.out.mono ?_
 rintro e2 X ⟨rfl,hR,hO⟩
 have qx:=RM.out.outs hO (by omega)
 obtain⟨u0,u1,u2,u3,u4,u5,u6,u7,u8⟩:=qx.c9_ rfl
 have zl:=qx.lt
 have zf:=qx.fz
 have o9:=out9 X gr (.int .i64 0) (.int .i64 0) (.int .i64 0) (.string ⟨#[]⟩) (.int .i64 0) (.int .i64 0) (.int .i64 0) (.string ⟨#[]⟩) (.slice none 0 0)
 have HO9:=zH (Out.down ((OM.out.trans (hO.up (N:=w.heap.size))).trans (o9.mono fun j _ (hj:j=gr)=>.inr (by have:=HGR.out;omega))))
 have HRO:=zH (hR.outs o9 (fun j (hj:j=gr)=>by omega))
 clear qx o9 hR hO
 go_wp2_with fail
 exact bodyPost_ret (v:=.agg #[.int .i64 0,.int .i64 0,.int .i64 0,.string ⟨#[]⟩,.int .i64 0,.int .i64 0,.int .i64 0,.string ⟨#[]⟩,.slice none 0 0]) (by simp[results,Tryz.results138,go_sem,zeroVal,u0,u1,u2,u3,u4,u5,u6,u7,u8]) rfl (RAns.mkErr rfl HO9.out (shE ⟨0,zeroVal,0,0,0,⟨#[]⟩,none,0,0⟩) HRO.out)
set_option maxHeartbeats 8000000 in
theorem ratom_none1 (p z k:Nat) (T:List Tok) (orr:Rd Ex) (n a:Nat) (s:Bs) (l:List Tok) (w:World) (h:RO w p z T l k) (hh:hd z l=⟨1,n,a,s⟩) (hs_kwTrue:(s == kwTrue)=false) (hs_kwFalse:(s == kwFalse)=false) (hs_kwNull:(s == kwNull)=false):Calls Tryz.prog 138 #[.pointer (some ⟨p,0,none⟩)] w (RAns ExV ShE p z T k (.err 7 (hAt z l)) w):=by
 have lp:=h.lt
 obtain⟨A,hA⟩:∃ A,A=w.alloc (.cells #[.int .i64 0,.int .i64 0,.int .i64 0,.string ⟨#[]⟩,.int .i64 0,.int .i64 0,.int .i64 0,.string ⟨#[]⟩,.slice none 0 0] 44):=⟨_,rfl⟩
 have b0:Below w.heap.size w A:=by rw[hA];exact ext_alloc (ext_refl _) _
 have N0:BkA A w.heap.size zExpr:=by rw[hA];exact BkA.new w zExpr 44
 have hRA:=h.below b0
 obtain⟨j0,pl0,e0,hs0⟩:=hRA.st
 have C:=zH (rhere_any p z T j0 0 pl0 k A hs0)
 rw[← e0] at C
 replace C:Hid (Calls Tryz.prog 28 #[.pointer (some ⟨p,0,none⟩)] A fun e w'=>e=.returned (.agg #[.int .i64 1,.int .i64 (n:Int),.int .i64 (a:Int),.string (bsB s)])∧Below A.heap.size A w'):=by rw[hh] at C;exact C
 have HRA:=zH hRA
 have HN:=zH N0
 have HB:=zH b0
 have HA:=zH hA
 have hpA:=Nat.lt_of_lt_of_le lp b0.size
 clear h b0 N0 hA hRA e0 hs0
 go_enter Tryz.func138,Tryz.ntmps138
 go_upto_region 1 with fail
 rw[← HA.out]
 obtain⟨gr,hgr⟩:∃ g,g=w.heap.size:=⟨_,rfl⟩
 have HGR:=zH hgr
 rw[← hgr] at HN ⊢
 have hpr:p<gr:=by omega
 clear HA hgr
 go_wp2_with fail
 refine C.out.mono ?_
 rintro e V ⟨rfl,hb⟩
 obtain⟨Y,hY⟩:∃ V0,V0=V.alloc (.cells #[.int .i64 1,.int .i64 (n:Int),.int .i64 (a:Int),.string (bsB s)] 82):=⟨_,rfl⟩
 have bY:Below V.heap.size V Y:=by rw[hY];exact ext_alloc (ext_refl _) _
 have kY:BkA Y V.heap.size [.int .i64 1,.int .i64 (n:Int),.int .i64 (a:Int),.string (bsB s)]:=by rw[hY];exact BkA.new V [.int .i64 1,.int .i64 (n:Int),.int .i64 (a:Int),.string (bsB s)] 82
 have hpV:=(HRA.out.below hb).lt
 obtain⟨j,c1,hj,fz,lpY,c3,hR1⟩:=((HRA.out.below hb).below bY).redo
 have hw:=wrapj hj
 obtain⟨Y1,hY1⟩:∃ V0,V0=Y.setCell ⟨p,1,none⟩ (.int .i64 ((j:Int)+1)):=⟨_,rfl⟩
 have o1:Out (fun j=>j=p) Y Y1:=by rw[hY1];exact out_p _ _ _ _
 replace hR1:RO (Y1.setCell ⟨p,1,none⟩ (.int .i64 (j:Int))) p z T l k:=by rw[hY1];exact hR1
 have hgV:gr<V.heap.size:=Nat.lt_of_lt_of_le HN.out.lt hb.size
 have TG:=zH (kY.outs o1 (by omega))
 have RG:=zH (((HN.out.on hb).on bY).outs o1 (by omega))
 have OG:=zH ((((Out.of (S:=fun j=>j=p∨w.heap.size≤j) HB.out).trans (Out.of hb)).trans (Out.of bY)).trans (o1.up (N:=w.heap.size)))
 have HR1:=zH hR1
 have c1j:Y1.cell? ⟨p,1,none⟩=some (.int .i64 ((j:Int)+1)):=by rw[hY1];exact cell_set_self c1
 have fzj:∀ o,Y1.frozen? ⟨p,o,none⟩=false:=fun o=>by rw[hY1,World.frozen?_setCell];exact fz o
 have lpj:=Nat.lt_of_lt_of_le lpY o1.size
 have HY:=zH hY
 have HY1:=zH hY1
 have HJ:=zH hj
 clear hb hY bY kY hY1 o1 hR1 C hj HN
 go_upto_region 2 with fail
 rw[← HY.out]
 clear HY
 obtain⟨gt,hgt⟩:∃ g,g=V.heap.size:=⟨_,rfl⟩
 rw[← hgt] at TG hgV ⊢
 clear hgt
 go_upto_block 0 with fail
 rw[← HY1.out]
 have HZ:=zH HY1
 clear HY1 c1 fz c3 lpY hw
 have t0:=TG.out.c 0 _ rfl
 have t1:=TG.out.c 1 _ rfl
 have t3:=TG.out.c 3 _ rfl
 have tl:=TG.out.lt
 have f_kwTrue:(s == [116,114,117,101])=false:=hs_kwTrue
 clear hs_kwTrue
 have f_kwFalse:(s == [102,97,108,115,101])=false:=hs_kwFalse
 clear hs_kwFalse
 have f_kwNull:(s == [110,117,108,108])=false:=hs_kwNull
 clear hs_kwNull
 clear hh
 have hwd:wrap64 (j:Int)=(j:Int):=by have:=HJ.out;unfold wrap64;omega
 obtain⟨M0,hM0⟩:∃ V0,V0=Y1.setCell ⟨p,1,none⟩ (.int .i64 (j:Int)):=⟨_,rfl⟩
 rw[← hM0] at HR1
 have o2:Out (fun j=>j=p) Y1 M0:=by rw[hM0];exact out_p _ _ _ _
 have RM:=zH (RG.out.outs o2 (by omega))
 have OM:=zH (OG.out.trans (o2.up (N:=w.heap.size)))
 have N:=zH (rno_ok 7 (by decide) HR1.out)
 have HM0:=zH hM0
 clear hM0 o2
 go_upto_region 28 with fail
 rw[← HM0.out]
 clear HM0 t0 t1 t3 tl c1j fzj lpj hwd
 go_wp2_with fail
 refine N.out.mono ?_
 rintro e2 X ⟨rfl,hR,hO⟩
 have qx:=RM.out.outs hO (by omega)
 obtain⟨u0,u1,u2,u3,u4,u5,u6,u7,u8⟩:=qx.c9_ rfl
 have zl:=qx.lt
 have zf:=qx.fz
 have o9:=out9 X gr (.int .i64 0) (.int .i64 0) (.int .i64 0) (.string ⟨#[]⟩) (.int .i64 0) (.int .i64 0) (.int .i64 0) (.string ⟨#[]⟩) (.slice none 0 0)
 have HO9:=zH (Out.down ((OM.out.trans (hO.up (N:=w.heap.size))).trans (o9.mono fun j _ (hj:j=gr)=>.inr (by have:=HGR.out;omega))))
 have HRO:=zH (hR.outs o9 (fun j (hj:j=gr)=>by omega))
 clear qx o9 hR hO
 go_wp2_with fail
 exact bodyPost_ret (v:=.agg #[.int .i64 0,.int .i64 0,.int .i64 0,.string ⟨#[]⟩,.int .i64 0,.int .i64 0,.int .i64 0,.string ⟨#[]⟩,.slice none 0 0]) (by simp[results,Tryz.results138,go_sem,zeroVal,u0,u1,u2,u3,u4,u5,u6,u7,u8]) rfl (RAns.mkErr rfl HO9.out (shE ⟨0,zeroVal,0,0,0,⟨#[]⟩,none,0,0⟩) HRO.out)
set_option maxHeartbeats 8000000 in
theorem ratom_none6 (p z k:Nat) (T:List Tok) (orr:Rd Ex) (n a:Nat) (s:Bs) (l:List Tok) (w:World) (h:RO w p z T l k) (hh:hd z l=⟨6,n,a,s⟩) (hs_40:(s == [40])=false):Calls Tryz.prog 138 #[.pointer (some ⟨p,0,none⟩)] w (RAns ExV ShE p z T k (.err 7 (hAt z l)) w):=by
 have lp:=h.lt
 obtain⟨A,hA⟩:∃ A,A=w.alloc (.cells #[.int .i64 0,.int .i64 0,.int .i64 0,.string ⟨#[]⟩,.int .i64 0,.int .i64 0,.int .i64 0,.string ⟨#[]⟩,.slice none 0 0] 44):=⟨_,rfl⟩
 have b0:Below w.heap.size w A:=by rw[hA];exact ext_alloc (ext_refl _) _
 have N0:BkA A w.heap.size zExpr:=by rw[hA];exact BkA.new w zExpr 44
 have hRA:=h.below b0
 obtain⟨j0,pl0,e0,hs0⟩:=hRA.st
 have C:=zH (rhere_any p z T j0 0 pl0 k A hs0)
 rw[← e0] at C
 replace C:Hid (Calls Tryz.prog 28 #[.pointer (some ⟨p,0,none⟩)] A fun e w'=>e=.returned (.agg #[.int .i64 6,.int .i64 (n:Int),.int .i64 (a:Int),.string (bsB s)])∧Below A.heap.size A w'):=by rw[hh] at C;exact C
 have HRA:=zH hRA
 have HN:=zH N0
 have HB:=zH b0
 have HA:=zH hA
 have hpA:=Nat.lt_of_lt_of_le lp b0.size
 clear h b0 N0 hA hRA e0 hs0
 go_enter Tryz.func138,Tryz.ntmps138
 go_upto_region 1 with fail
 rw[← HA.out]
 obtain⟨gr,hgr⟩:∃ g,g=w.heap.size:=⟨_,rfl⟩
 have HGR:=zH hgr
 rw[← hgr] at HN ⊢
 have hpr:p<gr:=by omega
 clear HA hgr
 go_wp2_with fail
 refine C.out.mono ?_
 rintro e V ⟨rfl,hb⟩
 obtain⟨Y,hY⟩:∃ V0,V0=V.alloc (.cells #[.int .i64 6,.int .i64 (n:Int),.int .i64 (a:Int),.string (bsB s)] 82):=⟨_,rfl⟩
 have bY:Below V.heap.size V Y:=by rw[hY];exact ext_alloc (ext_refl _) _
 have kY:BkA Y V.heap.size [.int .i64 6,.int .i64 (n:Int),.int .i64 (a:Int),.string (bsB s)]:=by rw[hY];exact BkA.new V [.int .i64 6,.int .i64 (n:Int),.int .i64 (a:Int),.string (bsB s)] 82
 have hpV:=(HRA.out.below hb).lt
 obtain⟨j,c1,hj,fz,lpY,c3,hR1⟩:=((HRA.out.below hb).below bY).redo
 have hw:=wrapj hj
 obtain⟨Y1,hY1⟩:∃ V0,V0=Y.setCell ⟨p,1,none⟩ (.int .i64 ((j:Int)+1)):=⟨_,rfl⟩
 have o1:Out (fun j=>j=p) Y Y1:=by rw[hY1];exact out_p _ _ _ _
 replace hR1:RO (Y1.setCell ⟨p,1,none⟩ (.int .i64 (j:Int))) p z T l k:=by rw[hY1];exact hR1
 have hgV:gr<V.heap.size:=Nat.lt_of_lt_of_le HN.out.lt hb.size
 have TG:=zH (kY.outs o1 (by omega))
 have RG:=zH (((HN.out.on hb).on bY).outs o1 (by omega))
 have OG:=zH ((((Out.of (S:=fun j=>j=p∨w.heap.size≤j) HB.out).trans (Out.of hb)).trans (Out.of bY)).trans (o1.up (N:=w.heap.size)))
 have HR1:=zH hR1
 have c1j:Y1.cell? ⟨p,1,none⟩=some (.int .i64 ((j:Int)+1)):=by rw[hY1];exact cell_set_self c1
 have fzj:∀ o,Y1.frozen? ⟨p,o,none⟩=false:=fun o=>by rw[hY1,World.frozen?_setCell];exact fz o
 have lpj:=Nat.lt_of_lt_of_le lpY o1.size
 have HY:=zH hY
 have HY1:=zH hY1
 have HJ:=zH hj
 clear hb hY bY kY hY1 o1 hR1 C hj HN
 go_upto_region 2 with fail
 rw[← HY.out]
 clear HY
 obtain⟨gt,hgt⟩:∃ g,g=V.heap.size:=⟨_,rfl⟩
 rw[← hgt] at TG hgV ⊢
 clear hgt
 go_upto_block 0 with fail
 rw[← HY1.out]
 have HZ:=zH HY1
 clear HY1 c1 fz c3 lpY hw
 have t0:=TG.out.c 0 _ rfl
 have t1:=TG.out.c 1 _ rfl
 have t3:=TG.out.c 3 _ rfl
 have tl:=TG.out.lt
 clear hh
 have hwd:wrap64 (j:Int)=(j:Int):=by have:=HJ.out;unfold wrap64;omega
 obtain⟨M0,hM0⟩:∃ V0,V0=Y1.setCell ⟨p,1,none⟩ (.int .i64 (j:Int)):=⟨_,rfl⟩
 rw[← hM0] at HR1
 have o2:Out (fun j=>j=p) Y1 M0:=by rw[hM0];exact out_p _ _ _ _
 have RM:=zH (RG.out.outs o2 (by omega))
 have OM:=zH (OG.out.trans (o2.up (N:=w.heap.size)))
 have N:=zH (rno_ok 7 (by decide) HR1.out)
 have HM0:=zH hM0
 clear hM0 o2
 go_upto_region 28 with fail
 rw[← HM0.out]
 clear HM0 t0 t1 t3 tl c1j fzj lpj hwd
 go_wp2_with fail
 refine N.out.mono ?_
 rintro e2 X ⟨rfl,hR,hO⟩
 have qx:=RM.out.outs hO (by omega)
 obtain⟨u0,u1,u2,u3,u4,u5,u6,u7,u8⟩:=qx.c9_ rfl
 have zl:=qx.lt
 have zf:=qx.fz
 have o9:=out9 X gr (.int .i64 0) (.int .i64 0) (.int .i64 0) (.string ⟨#[]⟩) (.int .i64 0) (.int .i64 0) (.int .i64 0) (.string ⟨#[]⟩) (.slice none 0 0)
 have HO9:=zH (Out.down ((OM.out.trans (hO.up (N:=w.heap.size))).trans (o9.mono fun j _ (hj:j=gr)=>.inr (by have:=HGR.out;omega))))
 have HRO:=zH (hR.outs o9 (fun j (hj:j=gr)=>by omega))
 clear qx o9 hR hO
 go_wp2_with fail
 exact bodyPost_ret (v:=.agg #[.int .i64 0,.int .i64 0,.int .i64 0,.string ⟨#[]⟩,.int .i64 0,.int .i64 0,.int .i64 0,.string ⟨#[]⟩,.slice none 0 0]) (by simp[results,Tryz.results138,go_sem,zeroVal,u0,u1,u2,u3,u4,u5,u6,u7,u8]) rfl (RAns.mkErr rfl HO9.out (shE ⟨0,zeroVal,0,0,0,⟨#[]⟩,none,0,0⟩) HRO.out)
end Go.Proofs.YtapbglhjamddbaaGreatDoor
