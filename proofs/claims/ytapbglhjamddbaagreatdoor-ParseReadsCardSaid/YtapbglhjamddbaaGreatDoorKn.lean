/- A part of the proof. -/
import Derived.Test.YtapbglhjamddbaaGreatDoorRpE
import Derived.Deep.CutBlock
import Derived.Test.YtapbglhjamddbaaGreatDoorRpF
import Derived.Test.YtapbglhjamddbaaGreatDoorRpG
import Derived.Test.YtapbglhjamddbaaGreatDoorRpH
import Derived.Test.YtapbglhjamddbaaGreatDoorHd
set_option linter.unusedSimpArgs false
set_option linter.unusedVariables false
namespace Go.Proofs.YtapbglhjamddbaaGreatDoor
open Go.RowKit Go.Deep
set_option maxRecDepth 100000
theorem Tryz.enter_rtext (vals:Array Value) (w:World):(callFunc 145 vals).run Tryz.prog w=.ok (.enter 145 vals) w:=by kernel_rfl
set_option maxHeartbeats 8000000 in
theorem ratom_paren (p z k:Nat) (T:List Tok) (orr:Rd Ex) (C0:RdE 33 p z T k orr) (n a:Nat) (s:Bs) (r:List Tok) (w:World) (h:RO w p z T (⟨6,n,a,s⟩ :: r) k) (f_40:(s == [40])=true) (res:PR Ex) (hq:(orr r).bind (fun x r2=>need z [41] r2 (fun r3=>.ok x r3))=res):Calls Tryz.prog 138 #[.pointer (some ⟨p,0,none⟩)] w (RAns ExV ShE p z T k res w):=by
  have HQ:=zH hq
  have HC:=zH C0
  clear hq C0
  have lp:=h.lt
  obtain⟨A,hA⟩:∃ A,A=w.alloc (.cells #[.int .i64 0,.int .i64 0,.int .i64 0,.string ⟨#[]⟩,.int .i64 0,.int .i64 0,.int .i64 0,.string ⟨#[]⟩,.slice none 0 0] 44):=⟨_,rfl⟩
  have b0:Below w.heap.size w A:=by rw[hA];exact ext_alloc (ext_refl _) _
  have N0:BkA A w.heap.size zExpr:=by rw[hA];exact BkA.new w zExpr 44
  have hRA:=h.below b0
  obtain⟨j0,pl0,e0,hs0⟩:=hRA.st
  have C:=zH (rhere_any p z T j0 0 pl0 k A hs0)
  rw[← e0] at C
  replace C:Hid (Calls Tryz.prog 28 #[.pointer (some ⟨p,0,none⟩)] A fun e w'=>e=.returned (.agg #[.int .i64 6,.int .i64 (n:Int),.int .i64 (a:Int),.string (bsB s)])∧Below A.heap.size A w'):=C
  have HRA:=zH hRA
  have HN:=zH N0
  have HB:=zH b0
  have HA:=zH hA
  have hpA:=Nat.lt_of_lt_of_le lp b0.size
  clear h b0 N0 hA hRA e0 hs0
  go_enter Tryz.func138,Tryz.ntmps138
  go_upto_region 1 with fail
  rw[← HA.out]
  obtain⟨gr,hgr⟩:∃ g,g=w.heap.size:=⟨_,rfl⟩
  have HGR:=zH hgr
  rw[← hgr] at HN ⊢
  have hpr:p<gr:=by omega
  clear HA hgr
  go_wp2_with fail
  refine C.out.mono ?_
  rintro e V ⟨rfl,hb⟩
  obtain⟨Y,hY⟩:∃ V0,V0=V.alloc (.cells #[.int .i64 6,.int .i64 (n:Int),.int .i64 (a:Int),.string (bsB s)] 82):=⟨_,rfl⟩
  have bY:Below V.heap.size V Y:=by rw[hY];exact ext_alloc (ext_refl _) _
  have kY:BkA Y V.heap.size [.int .i64 6,.int .i64 (n:Int),.int .i64 (a:Int),.string (bsB s)]:=by rw[hY];exact BkA.new V [.int .i64 6,.int .i64 (n:Int),.int .i64 (a:Int),.string (bsB s)] 82
  have hpV:=(HRA.out.below hb).lt
  obtain⟨j,c1,hj,fz,lpY,c3,hR1⟩:=((HRA.out.below hb).below bY).next
  have hw:=wrapj hj
  obtain⟨Y1,hY1⟩:∃ V0,V0=Y.setCell ⟨p,1,none⟩ (.int .i64 ((j:Int)+1)):=⟨_,rfl⟩
  have o1:Out (fun j=>j=p) Y Y1:=by rw[hY1];exact out_p _ _ _ _
  replace hR1:RO Y1 p z T r k:=by rw[hY1];exact hR1
  have hgV:gr<V.heap.size:=Nat.lt_of_lt_of_le HN.out.lt hb.size
  have TG:=zH (kY.outs o1 (by omega))
  have RG:=zH (((HN.out.on hb).on bY).outs o1 (by omega))
  have OG:=zH ((((Out.of (S:=fun j=>j=p∨w.heap.size≤j) HB.out).trans (Out.of hb)).trans (Out.of bY)).trans (o1.up (N:=w.heap.size)))
  have HR1:=zH hR1
  have HY:=zH hY
  have HY1:=zH hY1
  have HJ:=zH hj
  clear hb hY bY kY hY1 o1 hR1 C hj HN
  go_upto_region 2 with fail
  rw[← HY.out]
  clear HY
  obtain⟨gt,hgt⟩:∃ g,g=V.heap.size:=⟨_,rfl⟩
  rw[← hgt] at TG hgV ⊢
  clear hgt
  go_upto_block 0 with fail
  rw[← HY1.out]
  have HZ:=zH HY1
  clear HY1 c1 fz c3 lpY hw
  have t0:=TG.out.c 0 _ rfl
  have t1:=TG.out.c 1 _ rfl
  have t3:=TG.out.c 3 _ rfl
  have tl:=TG.out.lt
  have CN:=zH (HC.out _ Y1 (.inl ⟨r,HR1.out,rfl⟩))
  go_wp2_with fail
  refine CN.out.mono ?_
  intro e2 X hA2
  obtain⟨⟨hop,⟨hvk,hvn,hvs⟩,hrel,hcol,hn,hs,hq,hlen,hc⟩,rfl,hO2,hAlt2⟩:=hA2.alt (fun x r2=>need z [41] r2 (fun r3=>PR.ok x r3))
  rw[HQ.out] at hAlt2
  obtain⟨X4,hX4⟩:∃ V0,V0=X.alloc (.cells #[.int .i64 hop,.int .i64 hvk,.int .i64 hvn,.string hvs,.int .i64 hrel,.int .i64 hcol,.int .i64 hn,.string hs,.slice hq hlen hc] 44):=⟨_,rfl⟩
  have bX4:Below X.heap.size X X4:=by rw[hX4];exact ext_alloc (ext_refl _) _
  have kX4:BkA X4 X.heap.size (RawE.cells ⟨hop,⟨hvk,hvn,hvs⟩,hrel,hcol,hn,hs,hq,hlen,hc⟩):=by rw[hX4];exact BkA.new X (RawE.cells ⟨hop,⟨hvk,hvn,hvs⟩,hrel,hcol,hn,hs,hq,hlen,hc⟩) 44
  have HX4:=zH hX4
  have hgY:=TG.out.lt
  have s1:=hO2.size
  have KV0:=zH kX4
  have RV0:=zH ((RG.out.outs hO2 (by omega)).on bX4)
  have OV0:=zH ((OG.out.trans (hO2.up (N:=w.heap.size))).trans (Out.of bX4))
  have AV0:=zH (hAlt2.below bX4 (Q:=fun j=>gr+1≤j∧j≠X.heap.size) (fun j hj hl=>⟨by omega,by omega⟩))
  have hgX:gr<X.heap.size:=by omega
  clear hA2 hAlt2 hO2 hX4 bX4 kX4 CN t0 t1 t3 tl hgY s1
  go_upto_region 19 with fail
  rw[← HX4.out]
  obtain⟨ge,hge⟩:∃ g,g=X.heap.size:=⟨_,rfl⟩
  rw[← hge] at KV0 AV0 hgX ⊢
  clear HX4 hge
  have MU:=zH (Alt.mustS (s:=[41]) (by decide) (by intro h;have:=h.1;omega) AV0.out)
  go_wp2_with fail
  refine MU.out.mono ?_
  rintro e3 V2 ⟨rfl,hO3,hA3⟩
  have KV:=zH (KV0.out.outs hO3 (by omega))
  have RV:=zH (RV0.out.outs hO3 (by omega))
  have OV:=zH (OV0.out.trans (hO3.up (N:=w.heap.size)))
  have AV:=zH hA3
  clear hO3 hA3 MU
  have q:=KV.out
  have q2:=RV.out
  obtain⟨c0,c1,c2,c3,c4,c5,c6,c7,c8⟩:=q.c9_ rfl
  obtain⟨d0,d1,d2,d3,d4,d5,d6,d7,d8⟩:=q2.c9_ rfl
  have ql:=q.lt
  have kl:=q2.lt
  have fz:=q2.fz
  clear q q2
  go_wp2_with fail
  have o9:=out9 V2 gr (.int .i64 hop) (.int .i64 hvk) (.int .i64 hvn) (.string hvs) (.int .i64 hrel) (.int .i64 hcol) (.int .i64 hn) (.string hs) (.slice hq hlen hc)
  have hM:=(AV.out).outs o9 (fun j (hj:j=gr)=>⟨by omega,fun h=>by have:=h.1;omega⟩) (Q:=fun j=>gr≤j) (fun j h _=>by have:=h.1;omega)
  refine bodyPost_ret (v:=.agg #[.int .i64 hop,.int .i64 hvk,.int .i64 hvn,.string hvs,.int .i64 hrel,.int .i64 hcol,.int .i64 hn,.string hs,.slice hq hlen hc]) (by simp[results,Tryz.results138,go_sem,zeroVal,d0,d1,d2,d3,d4,d5,d6,d7,d8]) rfl (hM.ans (Out.down ((OV.out).trans (o9.mono fun j _ (hj:j=gr)=>.inr (by have:=HGR.out;omega)))) (fun j hj=>by have:=HGR.out;omega))
set_option maxHeartbeats 8000000 in
theorem ratom_name (p z k:Nat) (T:List Tok) (n a:Nat) (s:Bs) (r:List Tok) (w:World) (h:RO w p z T (⟨2,n,a,s⟩ :: r) k) (hdot:hSees [46] r=false) (res:PR Ex) (hq:bCol z s r=res):Calls Tryz.prog 138 #[.pointer (some ⟨p,0,none⟩)] w (RAns ExV ShE p z T k res w):=by
  have hwf:=h.toks.wf ⟨2,n,a,s⟩ (List.mem_cons_self ..)
  have hs9:s.length≤40:=hwf.text
  have HWF:=zH hs9
  have HRES:=zH (show res=.ok (.mk 19 (txtV s) 0 0 0 ⟨#[]⟩ []) r by rw[← hq];unfold bCol;rw[if_neg (by rw[hdot];decide)])
  have HD:=zH hdot
  clear hwf hq hs9 hdot
  have lp:=h.lt
  obtain⟨A,hA⟩:∃ A,A=w.alloc (.cells #[.int .i64 0,.int .i64 0,.int .i64 0,.string ⟨#[]⟩,.int .i64 0,.int .i64 0,.int .i64 0,.string ⟨#[]⟩,.slice none 0 0] 44):=⟨_,rfl⟩
  have b0:Below w.heap.size w A:=by rw[hA];exact ext_alloc (ext_refl _) _
  have N0:BkA A w.heap.size zExpr:=by rw[hA];exact BkA.new w zExpr 44
  have hRA:=h.below b0
  obtain⟨j0,pl0,e0,hs0⟩:=hRA.st
  have C:=zH (rhere_any p z T j0 0 pl0 k A hs0)
  rw[← e0] at C
  replace C:Hid (Calls Tryz.prog 28 #[.pointer (some ⟨p,0,none⟩)] A fun e w'=>e=.returned (.agg #[.int .i64 2,.int .i64 (n:Int),.int .i64 (a:Int),.string (bsB s)])∧Below A.heap.size A w'):=C
  have HRA:=zH hRA
  have HN:=zH N0
  have HB:=zH b0
  have HA:=zH hA
  have hpA:=Nat.lt_of_lt_of_le lp b0.size
  clear h b0 N0 hA hRA e0 hs0
  go_enter Tryz.func138,Tryz.ntmps138
  go_upto_region 1 with fail
  rw[← HA.out]
  obtain⟨gr,hgr⟩:∃ g,g=w.heap.size:=⟨_,rfl⟩
  have HGR:=zH hgr
  rw[← hgr] at HN ⊢
  have hpr:p<gr:=by omega
  clear HA hgr
  go_wp2_with fail
  refine C.out.mono ?_
  rintro e V ⟨rfl,hb⟩
  obtain⟨Y,hY⟩:∃ V0,V0=V.alloc (.cells #[.int .i64 2,.int .i64 (n:Int),.int .i64 (a:Int),.string (bsB s)] 82):=⟨_,rfl⟩
  have bY:Below V.heap.size V Y:=by rw[hY];exact ext_alloc (ext_refl _) _
  have kY:BkA Y V.heap.size [.int .i64 2,.int .i64 (n:Int),.int .i64 (a:Int),.string (bsB s)]:=by rw[hY];exact BkA.new V [.int .i64 2,.int .i64 (n:Int),.int .i64 (a:Int),.string (bsB s)] 82
  have hpV:=(HRA.out.below hb).lt
  obtain⟨j,c1,hj,fz,lpY,c3,hR1⟩:=((HRA.out.below hb).below bY).next
  have hw:=wrapj hj
  obtain⟨Y1,hY1⟩:∃ V0,V0=Y.setCell ⟨p,1,none⟩ (.int .i64 ((j:Int)+1)):=⟨_,rfl⟩
  have o1:Out (fun j=>j=p) Y Y1:=by rw[hY1];exact out_p _ _ _ _
  replace hR1:RO Y1 p z T r k:=by rw[hY1];exact hR1
  have hgV:gr<V.heap.size:=Nat.lt_of_lt_of_le HN.out.lt hb.size
  have TG:=zH (kY.outs o1 (by omega))
  have RG:=zH (((HN.out.on hb).on bY).outs o1 (by omega))
  have OG:=zH ((((Out.of (S:=fun j=>j=p∨w.heap.size≤j) HB.out).trans (Out.of hb)).trans (Out.of bY)).trans (o1.up (N:=w.heap.size)))
  have HR1:=zH hR1
  have HY:=zH hY
  have HY1:=zH hY1
  have HJ:=zH hj
  clear hb hY bY kY hY1 o1 hR1 C hj HN
  go_upto_region 2 with fail
  rw[← HY.out]
  clear HY
  obtain⟨gt,hgt⟩:∃ g,g=V.heap.size:=⟨_,rfl⟩
  rw[← hgt] at TG hgV ⊢
  clear hgt
  go_upto_block 0 with fail
  rw[← HY1.out]
  have HZ:=zH HY1
  clear HY1 c1 fz c3 lpY hw
  have t0:=TG.out.c 0 _ rfl
  have t1:=TG.out.c 1 _ rfl
  have t3:=TG.out.c 3 _ rfl
  have tl:=TG.out.lt
  have hR6:rIs 6 [46] r=false:=(sees_s (s:=[46]) (by decide) HR1.out.toks).symm.trans HD.out
  have WN:=zH (rsign_no p z k T r [46] Y1 HR1.out hR6)
  clear hR6
  go_wp2_with fail
  refine WN.out.mono ?_
  rintro e1 X ⟨rfl,hb1⟩
  have t3:=(TG.out.on hb1).c 3 _ rfl
  have tl:=(TG.out.on hb1).lt
  have WT:=zH (rtext_any (bsB s) X)
  have RX:=zH (RG.out.on hb1)
  have OX:=zH (OG.out.trans (Out.of hb1))
  have HRX:=zH (HR1.out.below hb1)
  clear hb1 WN
  go_wp2_with fail
  refine WT.out.mono ?_
  rintro e2 X2 ⟨rfl,hb2⟩
  have RX2:=zH (RX.out.on hb2)
  have OX2:=zH (OX.out.trans (Out.of hb2))
  have HRX2:=zH (HRX.out.below hb2)
  clear hb2 WT t0 t1 t3 tl
  have qx:=RX2.out
  obtain⟨u0,u1,u2,u3,u4,u5,u6,u7,u8⟩:=qx.c9_ rfl
  have zl:=qx.lt
  have zf:=qx.fz
  have o9:=out9 X2 gr (.int .i64 19) (.int .i64 3) (.int .i64 0) (.string (bsB s)) (.int .i64 0) (.int .i64 0) (.int .i64 0) (.string ⟨#[]⟩) (.slice none 0 0)
  have HO9:=zH (Out.down ((OX2.out).trans (o9.mono fun j _ (hj:j=gr)=>.inr (by have:=HGR.out;omega))))
  have HRO:=zH (HRX2.out.outs o9 (fun j (hj:j=gr)=>by omega))
  clear qx o9
  go_wp2_with fail
  exact bodyPost_ret (v:=.agg #[.int .i64 19,.int .i64 3,.int .i64 0,.string (bsB s),.int .i64 0,.int .i64 0,.int .i64 0,.string ⟨#[]⟩,.slice none 0 0]) (by simp[results,Tryz.results138,go_sem,zeroVal,u0,u1,u2,u3,u4,u5,u6,u7,u8]) rfl (RAns.mkOk HRES.out HO9.out (shE ⟨19,⟨3,0,(bsB s)⟩,0,0,0,⟨#[]⟩,none,0,0⟩) ⟨⟨19,⟨3,0,(bsB s)⟩,0,0,0,⟨#[]⟩,none,0,0⟩,rfl,leaf_ex _ _ 19 ⟨3,0,bsB s⟩ 0 ⟨#[]⟩ (okVal_txt HWF.out)⟩ HRO.out)
set_option maxHeartbeats 8000000 in
theorem ratom_colY (p z k:Nat) (T:List Tok) (n a:Nat) (s:Bs) (td:Tok) (r:List Tok) (w:World) (h:RO w p z T (⟨2,n,a,s⟩ :: td :: r) k) (hdot:hSees [46] (td :: r)=true) (t2:Tok) (r2:List Tok) (hr:r=t2 :: r2) (h2:t2.kd=2) (res:PR Ex) (hq:bCol z s (td :: r)=res):Calls Tryz.prog 138 #[.pointer (some ⟨p,0,none⟩)] w (RAns ExV ShE p z T k res w):=by
  have hwf:=h.toks.wf ⟨2,n,a,s⟩ (List.mem_cons_self ..)
  have hs9:s.length≤40:=hwf.text
  subst hr
  obtain⟨kd2,n2,a2,s2⟩:=t2
  obtain rfl:kd2=2:=h2
  have hwf2:=h.toks.wf ⟨2,n2,a2,s2⟩ (List.mem_cons_of_mem _ (List.mem_cons_of_mem _ (List.mem_cons_self ..)))
  have hs2:s2.length≤40:=hwf2.text
  have HWF:=zH (And.intro hs9 hs2)
  have HRES:=zH (show res=.ok (.mk 19 (txtV s2) 0 0 0 (bsB s) []) r2 by rw[← hq];unfold bCol;rw[if_pos hdot];simp)
  clear hwf hwf2 hs9 hs2 hq
  have HD:=zH hdot
  clear hdot
  have lp:=h.lt
  obtain⟨A,hA⟩:∃ A,A=w.alloc (.cells #[.int .i64 0,.int .i64 0,.int .i64 0,.string ⟨#[]⟩,.int .i64 0,.int .i64 0,.int .i64 0,.string ⟨#[]⟩,.slice none 0 0] 44):=⟨_,rfl⟩
  have b0:Below w.heap.size w A:=by rw[hA];exact ext_alloc (ext_refl _) _
  have N0:BkA A w.heap.size zExpr:=by rw[hA];exact BkA.new w zExpr 44
  have hRA:=h.below b0
  obtain⟨j0,pl0,e0,hs0⟩:=hRA.st
  have C:=zH (rhere_any p z T j0 0 pl0 k A hs0)
  rw[← e0] at C
  replace C:Hid (Calls Tryz.prog 28 #[.pointer (some ⟨p,0,none⟩)] A fun e w'=>e=.returned (.agg #[.int .i64 2,.int .i64 (n:Int),.int .i64 (a:Int),.string (bsB s)])∧Below A.heap.size A w'):=C
  have HRA:=zH hRA
  have HN:=zH N0
  have HB:=zH b0
  have HA:=zH hA
  have hpA:=Nat.lt_of_lt_of_le lp b0.size
  clear h b0 N0 hA hRA e0 hs0
  go_enter Tryz.func138,Tryz.ntmps138
  go_upto_region 1 with fail
  rw[← HA.out]
  obtain⟨gr,hgr⟩:∃ g,g=w.heap.size:=⟨_,rfl⟩
  have HGR:=zH hgr
  rw[← hgr] at HN ⊢
  have hpr:p<gr:=by omega
  clear HA hgr
  go_wp2_with fail
  refine C.out.mono ?_
  rintro e V ⟨rfl,hb⟩
  obtain⟨Y,hY⟩:∃ V0,V0=V.alloc (.cells #[.int .i64 2,.int .i64 (n:Int),.int .i64 (a:Int),.string (bsB s)] 82):=⟨_,rfl⟩
  have bY:Below V.heap.size V Y:=by rw[hY];exact ext_alloc (ext_refl _) _
  have kY:BkA Y V.heap.size [.int .i64 2,.int .i64 (n:Int),.int .i64 (a:Int),.string (bsB s)]:=by rw[hY];exact BkA.new V [.int .i64 2,.int .i64 (n:Int),.int .i64 (a:Int),.string (bsB s)] 82
  have hpV:=(HRA.out.below hb).lt
  obtain⟨j,c1,hj,fz,lpY,c3,hR1⟩:=((HRA.out.below hb).below bY).next
  have hw:=wrapj hj
  obtain⟨Y1,hY1⟩:∃ V0,V0=Y.setCell ⟨p,1,none⟩ (.int .i64 ((j:Int)+1)):=⟨_,rfl⟩
  have o1:Out (fun j=>j=p) Y Y1:=by rw[hY1];exact out_p _ _ _ _
  replace hR1:RO Y1 p z T (td :: ⟨2,n2,a2,s2⟩ :: r2) k:=by rw[hY1];exact hR1
  have hgV:gr<V.heap.size:=Nat.lt_of_lt_of_le HN.out.lt hb.size
  have TG:=zH (kY.outs o1 (by omega))
  have RG:=zH (((HN.out.on hb).on bY).outs o1 (by omega))
  have OG:=zH ((((Out.of (S:=fun j=>j=p∨w.heap.size≤j) HB.out).trans (Out.of hb)).trans (Out.of bY)).trans (o1.up (N:=w.heap.size)))
  have HR1:=zH hR1
  have HY:=zH hY
  have HY1:=zH hY1
  have HJ:=zH hj
  clear hb hY bY kY hY1 o1 hR1 C hj HN
  go_upto_region 2 with fail
  rw[← HY.out]
  clear HY
  obtain⟨gt,hgt⟩:∃ g,g=V.heap.size:=⟨_,rfl⟩
  rw[← hgt] at TG hgV ⊢
  clear hgt
  go_upto_block 0 with fail
  rw[← HY1.out]
  have HZ:=zH HY1
  clear HY1 c1 fz c3 lpY hw
  have t0:=TG.out.c 0 _ rfl
  have t1:=TG.out.c 1 _ rfl
  have t3:=TG.out.c 3 _ rfl
  have tl:=TG.out.lt
  have hR6:rIs 6 [46] (td :: ⟨2,n2,a2,s2⟩ :: r2)=true:=(sees_s (s:=[46]) (by decide) HR1.out.toks).symm.trans HD.out
  have WY:=zH (rsign_yes p z k T td _ [46] Y1 HR1.out hR6)
  clear hR6
  go_wp2_with fail
  refine WY.out.mono ?_
  rintro e1 X ⟨rfl,hR,hO⟩
  have WM:=zH (rname_yes p z k T ⟨2,n2,a2,s2⟩ r2 X hR rfl)
  have hgY:=TG.out.lt
  have TX:=zH (TG.out.outs hO (by omega))
  have RX:=zH (RG.out.outs hO (by omega))
  have OX:=zH (OG.out.trans (hO.up (N:=w.heap.size)))
  have s1:=hO.size
  clear hR hO WY t0 t1 t3 tl
  go_wp2_with fail
  refine WM.out.mono ?_
  rintro e2 X2 ⟨rfl,hR2,hO2⟩
  have TX2:=zH (TX.out.outs hO2 (by omega))
  have RX2:=zH (RX.out.outs hO2 (by omega))
  have OX2:=zH (OX.out.trans (hO2.up (N:=w.heap.size)))
  have HR2:=zH hR2
  clear hR2 hO2 WM s1 hgY
  have hd0:Below X2.heap.size X2 X2.drew:=(Below.refl _ _).drew
  have HD0:=zH hd0
  have x3:=TX2.out.c 3 _ rfl
  have xl:=TX2.out.lt
  have a3:=(TX2.out.on hd0).c 3 _ rfl
  have al:=(TX2.out.on hd0).lt
  clear hd0
  go_upto_region 26 with fail
  go_region_law (first
    |(refine step_call1 rfl 145 _ _ rfl (.string (bsB s2)) rfl (Tryz.enter_rtext _ _) ?_;refine (rtext_any (bsB s2) X2.drew).mono ?_;rintro e3 X3 ⟨rfl,hb3⟩;refine⟨_,rfl,?_⟩;have hb4:=HD0.out.trans (hb3.mono HD0.out.size);have RX3:=zH (RX2.out.on hb4);have OX3:=zH (OX2.out.trans (Out.of hb4));have HR3:=zH (HR2.out.below hb4);have y3:=(TX2.out.on hb4).c 3 _ rfl;have yl:=(TX2.out.on hb4).lt;have qx:=RX3.out;have u0:=qx.c 0 _ rfl;have u1:=qx.c 1 _ rfl;have u2:=qx.c 2 _ rfl;have u3:=qx.c 3 _ rfl;have u4:=qx.c 4 _ rfl;have u5:=qx.c 5 _ rfl;have u6:=qx.c 6 _ rfl;have u7:=qx.c 7 _ rfl;have u8:=qx.c 8 _ rfl;have zl:=qx.lt;have zf:=qx.fz;clear hb3 hb4 qx))
  all_goals
   have o9:=out9 X3 gr (.int .i64 19) (.int .i64 3) (.int .i64 0) (.string (bsB s2)) (.int .i64 0) (.int .i64 0) (.int .i64 0) (.string (bsB s)) (.slice none 0 0)
   have HO9:=zH (Out.down (OX3.out.trans (o9.mono fun j _ (hj:j=gr)=>.inr (by have:=HGR.out;omega))))
   have HRO:=zH (HR3.out.outs o9 (fun j (hj:j=gr)=>by omega))
   clear o9
   go_wp2_with fail
   exact bodyPost_ret (v:=.agg #[.int .i64 19,.int .i64 3,.int .i64 0,.string (bsB s2),.int .i64 0,.int .i64 0,.int .i64 0,.string (bsB s),.slice none 0 0]) (by simp[results,Tryz.results138,go_sem,zeroVal,u0,u1,u2,u3,u4,u5,u6,u7,u8]) rfl (RAns.mkOk HRES.out HO9.out (shE ⟨19,⟨3,0,bsB s2⟩,0,0,0,bsB s,none,0,0⟩) ⟨⟨19,⟨3,0,bsB s2⟩,0,0,0,bsB s,none,0,0⟩,rfl,leaf_ex _ _ 19 ⟨3,0,bsB s2⟩ 0 (bsB s) (okVal_txt HWF.out.2)⟩ HRO.out)
set_option maxHeartbeats 8000000 in
theorem ratom_colN (p z k:Nat) (T:List Tok) (n a:Nat) (s:Bs) (td:Tok) (r:List Tok) (w:World) (h:RO w p z T (⟨2,n,a,s⟩ :: td :: r) k) (hdot:hSees [46] (td :: r)=true) (h2:(hd z r).kd≠2) (res:PR Ex) (hq:bCol z s (td :: r)=res):Calls Tryz.prog 138 #[.pointer (some ⟨p,0,none⟩)] w (RAns ExV ShE p z T k res w):=by
  have hwf:=h.toks.wf ⟨2,n,a,s⟩ (List.mem_cons_self ..)
  have hs9:s.length≤40:=hwf.text
  have HRES:=zH (show res=.err 7 (hAt z r) by
    rw[← hq]
    unfold bCol
    rw[if_pos hdot]
    cases r with
    | nil=>rfl
    | cons t2 r2=>show (if t2.kd=2 then _ else _)=_;rw[if_neg (show ¬ t2.kd=2 from h2)];rfl)
  have H2:=zH h2
  clear hwf hs9 hq h2
  have HD:=zH hdot
  clear hdot
  have lp:=h.lt
  obtain⟨A,hA⟩:∃ A,A=w.alloc (.cells #[.int .i64 0,.int .i64 0,.int .i64 0,.string ⟨#[]⟩,.int .i64 0,.int .i64 0,.int .i64 0,.string ⟨#[]⟩,.slice none 0 0] 44):=⟨_,rfl⟩
  have b0:Below w.heap.size w A:=by rw[hA];exact ext_alloc (ext_refl _) _
  have N0:BkA A w.heap.size zExpr:=by rw[hA];exact BkA.new w zExpr 44
  have hRA:=h.below b0
  obtain⟨j0,pl0,e0,hs0⟩:=hRA.st
  have C:=zH (rhere_any p z T j0 0 pl0 k A hs0)
  rw[← e0] at C
  replace C:Hid (Calls Tryz.prog 28 #[.pointer (some ⟨p,0,none⟩)] A fun e w'=>e=.returned (.agg #[.int .i64 2,.int .i64 (n:Int),.int .i64 (a:Int),.string (bsB s)])∧Below A.heap.size A w'):=C
  have HRA:=zH hRA
  have HN:=zH N0
  have HB:=zH b0
  have HA:=zH hA
  have hpA:=Nat.lt_of_lt_of_le lp b0.size
  clear h b0 N0 hA hRA e0 hs0
  go_enter Tryz.func138,Tryz.ntmps138
  go_upto_region 1 with fail
  rw[← HA.out]
  obtain⟨gr,hgr⟩:∃ g,g=w.heap.size:=⟨_,rfl⟩
  have HGR:=zH hgr
  rw[← hgr] at HN ⊢
  have hpr:p<gr:=by omega
  clear HA hgr
  go_wp2_with fail
  refine C.out.mono ?_
  rintro e V ⟨rfl,hb⟩
  obtain⟨Y,hY⟩:∃ V0,V0=V.alloc (.cells #[.int .i64 2,.int .i64 (n:Int),.int .i64 (a:Int),.string (bsB s)] 82):=⟨_,rfl⟩
  have bY:Below V.heap.size V Y:=by rw[hY];exact ext_alloc (ext_refl _) _
  have kY:BkA Y V.heap.size [.int .i64 2,.int .i64 (n:Int),.int .i64 (a:Int),.string (bsB s)]:=by rw[hY];exact BkA.new V [.int .i64 2,.int .i64 (n:Int),.int .i64 (a:Int),.string (bsB s)] 82
  have hpV:=(HRA.out.below hb).lt
  obtain⟨j,c1,hj,fz,lpY,c3,hR1⟩:=((HRA.out.below hb).below bY).next
  have hw:=wrapj hj
  obtain⟨Y1,hY1⟩:∃ V0,V0=Y.setCell ⟨p,1,none⟩ (.int .i64 ((j:Int)+1)):=⟨_,rfl⟩
  have o1:Out (fun j=>j=p) Y Y1:=by rw[hY1];exact out_p _ _ _ _
  replace hR1:RO Y1 p z T (td :: r) k:=by rw[hY1];exact hR1
  have hgV:gr<V.heap.size:=Nat.lt_of_lt_of_le HN.out.lt hb.size
  have TG:=zH (kY.outs o1 (by omega))
  have RG:=zH (((HN.out.on hb).on bY).outs o1 (by omega))
  have OG:=zH ((((Out.of (S:=fun j=>j=p∨w.heap.size≤j) HB.out).trans (Out.of hb)).trans (Out.of bY)).trans (o1.up (N:=w.heap.size)))
  have HR1:=zH hR1
  have HY:=zH hY
  have HY1:=zH hY1
  have HJ:=zH hj
  clear hb hY bY kY hY1 o1 hR1 C hj HN
  go_upto_region 2 with fail
  rw[← HY.out]
  clear HY
  obtain⟨gt,hgt⟩:∃ g,g=V.heap.size:=⟨_,rfl⟩
  rw[← hgt] at TG hgV ⊢
  clear hgt
  go_upto_block 0 with fail
  rw[← HY1.out]
  have HZ:=zH HY1
  clear HY1 c1 fz c3 lpY hw
  have t0:=TG.out.c 0 _ rfl
  have t1:=TG.out.c 1 _ rfl
  have t3:=TG.out.c 3 _ rfl
  have tl:=TG.out.lt
  have hR6:rIs 6 [46] (td :: r)=true:=(sees_s (s:=[46]) (by decide) HR1.out.toks).symm.trans HD.out
  have WY:=zH (rsign_yes p z k T td _ [46] Y1 HR1.out hR6)
  clear hR6
  go_wp2_with fail
  refine WY.out.mono ?_
  rintro e1 X ⟨rfl,hR,hO⟩
  have WM:=zH (rname_no p z k T r X hR H2.out)
  have hgY:=TG.out.lt
  have TX:=zH (TG.out.outs hO (by omega))
  have RX:=zH (RG.out.outs hO (by omega))
  have OX:=zH (OG.out.trans (hO.up (N:=w.heap.size)))
  have s1:=hO.size
  clear hR hO WY t0 t1 t3 tl
  go_wp2_with fail
  refine WM.out.mono ?_
  rintro e2 X2 ⟨rfl,hR2,hO2⟩
  have TX2:=zH (TX.out.outs hO2 (by omega))
  have RX2:=zH (RX.out.outs hO2 (by omega))
  have OX2:=zH (OX.out.trans (hO2.up (N:=w.heap.size)))
  have HR2:=zH hR2
  clear hR2 hO2 WM s1 hgY
  have hd0:Below X2.heap.size X2 X2.drew:=(Below.refl _ _).drew
  have HD0:=zH hd0
  have x3:=TX2.out.c 3 _ rfl
  have xl:=TX2.out.lt
  have a3:=(TX2.out.on hd0).c 3 _ rfl
  have al:=(TX2.out.on hd0).lt
  clear hd0
  go_upto_region 26 with fail
  go_region_law (first
    |(refine step_call1 rfl 145 _ _ rfl (.string (⟨#[]⟩)) rfl (Tryz.enter_rtext _ _) ?_;refine (rtext_any (⟨#[]⟩) X2.drew).mono ?_;rintro e3 X3 ⟨rfl,hb3⟩;refine⟨_,rfl,?_⟩;have hb4:=HD0.out.trans (hb3.mono HD0.out.size);have RX3:=zH (RX2.out.on hb4);have OX3:=zH (OX2.out.trans (Out.of hb4));have HR3:=zH (HR2.out.below hb4);have y3:=(TX2.out.on hb4).c 3 _ rfl;have yl:=(TX2.out.on hb4).lt;have qx:=RX3.out;have u0:=qx.c 0 _ rfl;have u1:=qx.c 1 _ rfl;have u2:=qx.c 2 _ rfl;have u3:=qx.c 3 _ rfl;have u4:=qx.c 4 _ rfl;have u5:=qx.c 5 _ rfl;have u6:=qx.c 6 _ rfl;have u7:=qx.c 7 _ rfl;have u8:=qx.c 8 _ rfl;have zl:=qx.lt;have zf:=qx.fz;clear hb3 hb4 qx))
  all_goals
   have o9:=out9 X3 gr (.int .i64 19) (.int .i64 3) (.int .i64 0) (.string (⟨#[]⟩)) (.int .i64 0) (.int .i64 0) (.int .i64 0) (.string (bsB s)) (.slice none 0 0)
   have HO9:=zH (Out.down (OX3.out.trans (o9.mono fun j _ (hj:j=gr)=>.inr (by have:=HGR.out;omega))))
   have HRO:=zH (HR3.out.outs o9 (fun j (hj:j=gr)=>by omega))
   clear o9
   go_wp2_with fail
   exact bodyPost_ret (v:=.agg #[.int .i64 19,.int .i64 3,.int .i64 0,.string (⟨#[]⟩),.int .i64 0,.int .i64 0,.int .i64 0,.string (bsB s),.slice none 0 0]) (by simp[results,Tryz.results138,go_sem,zeroVal,u0,u1,u2,u3,u4,u5,u6,u7,u8]) rfl (RAns.mkErr HRES.out HO9.out (shE ⟨19,⟨3,0,⟨#[]⟩⟩,0,0,0,bsB s,none,0,0⟩) HRO.out)
set_option maxHeartbeats 8000000 in
theorem ratom_bad (p z k:Nat) (T:List Tok) (er a:Nat) (w:World) (h:RE w p z T er a):Calls Tryz.prog 138 #[.pointer (some ⟨p,0,none⟩)] w (RAns ExV ShE p z T k (.err er a) w):=by
  have lp:=h.lt
  obtain⟨A,hA⟩:∃ A,A=w.alloc (.cells #[.int .i64 0,.int .i64 0,.int .i64 0,.string ⟨#[]⟩,.int .i64 0,.int .i64 0,.int .i64 0,.string ⟨#[]⟩,.slice none 0 0] 44):=⟨_,rfl⟩
  have b0:Below w.heap.size w A:=by rw[hA];exact ext_alloc (ext_refl _) _
  have N0:BkA A w.heap.size zExpr:=by rw[hA];exact BkA.new w zExpr 44
  have hRA:=h.below b0
  obtain⟨j0,d0,hs0⟩:=hRA.st
  have C:=zH (rhere_any p z T j0 er a d0 A hs0)
  obtain⟨⟨kd,n,at_,s⟩,ht⟩:∃ t,t=hd z (T.drop j0):=⟨_,rfl⟩
  rw[← ht] at C
  have HRA:=zH hRA
  have HN:=zH N0
  have HB:=zH b0
  have HA:=zH hA
  have hpA:=Nat.lt_of_lt_of_le lp b0.size
  have hne:((er:Int) != 0)=true:=by rw[bne_iff_ne];have:=h.ne;omega
  clear h b0 N0 hA hRA hs0 ht
  go_enter Tryz.func138,Tryz.ntmps138
  go_upto_region 1 with fail
  rw[← HA.out]
  obtain⟨gr,hgr⟩:∃ g,g=w.heap.size:=⟨_,rfl⟩
  have HGR:=zH hgr
  rw[← hgr] at HN ⊢
  have hpr:p<gr:=by omega
  clear HA hgr
  go_wp2_with fail
  refine C.out.mono ?_
  rintro e V ⟨rfl,hb⟩
  obtain⟨Y,hY⟩:∃ V0,V0=V.alloc (.cells #[.int .i64 (kd:Int),.int .i64 (n:Int),.int .i64 (at_:Int),.string (bsB s)] 82):=⟨_,rfl⟩
  have bY:Below V.heap.size V Y:=by rw[hY];exact ext_alloc (ext_refl _) _
  have hRY:=(HRA.out.below hb).below bY
  have RG:=zH ((HN.out.on hb).on bY)
  have OG:=zH (((Out.of (S:=fun j=>j=p∨w.heap.size≤j) HB.out).trans (Out.of hb)).trans (Out.of bY))
  obtain⟨dd,-,-,lpV,c3,-⟩:=hRY.deep
  have HRY:=zH hRY
  have HY:=zH hY
  have qx:=RG.out
  obtain⟨u0,u1,u2,u3,u4,u5,u6,u7,u8⟩:=qx.c9_ rfl
  have zl:=qx.lt
  have zf:=qx.fz
  clear hb hY bY hRY C HN qx
  go_upto_region 2 with fail
  rw[← HY.out]
  clear HY
  go_wp2_with fail
  have o9:=out9 Y gr (.int .i64 0) (.int .i64 0) (.int .i64 0) (.string ⟨#[]⟩) (.int .i64 0) (.int .i64 0) (.int .i64 0) (.string ⟨#[]⟩) (.slice none 0 0)
  exact bodyPost_ret (v:=.agg #[.int .i64 0,.int .i64 0,.int .i64 0,.string ⟨#[]⟩,.int .i64 0,.int .i64 0,.int .i64 0,.string ⟨#[]⟩,.slice none 0 0]) (by simp[results,Tryz.results138,go_sem,u0,u1,u2,u3,u4,u5,u6,u7,u8]) rfl (RAns.mkErr rfl (Out.down (OG.out.trans (o9.mono fun j _ (hj:j=gr)=>.inr (by have:=HGR.out;omega)))) (shE ⟨0,zeroVal,0,0,0,⟨#[]⟩,none,0,0⟩) (HRY.out.outs o9 fun j (hj:j=gr)=>by omega))
set_option linter.unusedSimpArgs false
set_option linter.unusedVariables false
theorem ratom_any {p z k:Nat} {T:List Tok} {orr:Rd Ex} (C:RdE 33 p z T k orr):RdE 138 p z T k (bAtom z orr):=fun res w h=>by
 rcases h with ⟨l,hR,rfl⟩ |⟨er,a,rfl,hE⟩
 rotate_left
 ·exact ratom_bad p z k T er a w hE
 cases l with
 | nil=>exact ratom_none0 p z k T orr 0 z [] [] w hR rfl
 | cons t r =>
  have hwf:=hR.toks.wf t (List.mem_cons_self ..)
  have hk:=hwf.kd
  obtain⟨kd,n,a,s⟩:=t
  dsimp only at hk
  have hkd:kd=1∨kd=2∨kd=3∨kd=4∨kd=5∨kd=6:=by omega
  rcases hkd with rfl | rfl | rfl | rfl | rfl | rfl
  ·have w1:=sees_word (s:=kwTrue) (by decide) (r:=r) hwf
   have w2:=sees_word (s:=kwFalse) (by decide) (r:=r) hwf
   have w3:=sees_word (s:=kwNull) (by decide) (r:=r) hwf
   have w4:=sees_sign (s:=[40]) (by decide) (r:=r) hwf
   cases h1:(s == kwTrue) with
   | true=>exact ratom_true p z k T orr n a s r w hR h1 _ rfl
   | false =>
    cases h2:(s == kwFalse) with
    | true=>exact ratom_false p z k T orr n a s r w hR h1 h2 _ rfl
    | false =>
     cases h3:(s == kwNull) with
     | true=>exact ratom_null p z k T orr n a s r w hR h1 h2 h3 _ rfl
     | false =>
      have e:bAtom z orr (⟨1,n,a,s⟩ :: r)=.err 7 (hAt z (⟨1,n,a,s⟩ :: r)):=by
       rw[bAtom]
       simp[w1,w2,w3,w4,h1,h2,h3,hAt]
      rw[e]
      exact ratom_none1 p z k T orr n a s _ w hR rfl h1 h2 h3
  ·have e:bAtom z orr (⟨2,n,a,s⟩ :: r)=bCol z s r:=by rw[bAtom];simp
   rw[e]
   cases hd:hSees [46] r with
   | false=>exact ratom_name p z k T n a s r w hR hd _ rfl
   | true =>
    obtain⟨td,r2,rfl,-,-⟩:=sees_cons hd
    cases r2 with
    | nil=>exact ratom_colN p z k T n a s td [] w hR hd (by show (0:Nat)≠2;decide) _ rfl
    | cons t2 r3 =>
     by_cases h2:t2.kd=2
     ·exact ratom_colY p z k T n a s td _ w hR hd t2 r3 rfl h2 _ rfl
     ·exact ratom_colN p z k T n a s td _ w hR hd h2 _ rfl
  ·exact ratom_num p z k T orr n a s r w hR _ rfl
  ·exact ratom_text p z k T orr n a s r w hR _ rfl
  ·exact ratom_param p z k T orr n a s r w hR _ rfl
  ·have w1:=sees_word (s:=kwTrue) (by decide) (r:=r) hwf
   have w2:=sees_word (s:=kwFalse) (by decide) (r:=r) hwf
   have w3:=sees_word (s:=kwNull) (by decide) (r:=r) hwf
   have w4:=sees_sign (s:=[40]) (by decide) (r:=r) hwf
   cases h1:(s == [40]) with
   | true =>
    have e:bAtom z orr (⟨6,n,a,s⟩ :: r)=(orr r).bind (fun x r2=>need z [41] r2 (fun r3=>.ok x r3)):=by
     rw[bAtom]
     simp[w1,w2,w3,w4,h1]
    rw[e]
    exact ratom_paren p z k T orr C n a s r w hR h1 _ rfl
   | false =>
    have e:bAtom z orr (⟨6,n,a,s⟩ :: r)=.err 7 (hAt z (⟨6,n,a,s⟩ :: r)):=by
     rw[bAtom]
     simp[w1,w2,w3,w4,h1,hAt]
    rw[e]
    exact ratom_none6 p z k T orr n a s _ w hR rfl h1
theorem ror_any {p z k:Nat} {T:List Tok} {nt:Rd Ex} (hk:k<60) (C:RdE 63 p z T (k+1) nt) (hK:Keep nt):RdE 33 p z T k (chain nt opsOr):=fun res w h=>by
 rcases h with ⟨l,hR,rfl⟩ |⟨er,a,rfl,hE⟩
 ·exact ror_good hk C hK l w hR _ rfl
 ·exact ror_bad hE.lt fun A hb=>rdeep_err p z T er a A (hE.below hb)
theorem rnot_any {p z k:Nat} {T:List Tok} {nt ts:Rd Ex} (hk:k<60) (C1:RdE 79 p z T (k+1) nt) (C2:RdE 92 p z T (k+1) ts):RdE 79 p z T k (fun l=>if hSees kwNot l=true then (nt l.tail).map (exOne 17) else ts l):=fun res w h=>by
 rcases h with ⟨l,hR,rfl⟩ |⟨er,a,rfl,hE⟩
 ·exact rnot_good hk C1 C2 l w hR _ rfl
 ·exact rnot_bad hE.lt fun A hb=>rdeep_err p z T er a A (hE.below hb)
theorem rsigned_any {p z k:Nat} {T:List Tok} {nt ts:Rd Ex} (hk:k<60) (C1:RdE 132 p z T (k+1) nt) (C2:RdE 138 p z T (k+1) ts):RdE 132 p z T k (fun l=>if hSees [45] l=true then (nt l.tail).map (exOne 8) else ts l):=fun res w h=>by
 rcases h with ⟨l,hR,rfl⟩ |⟨er,a,rfl,hE⟩
 ·exact rsigned_good hk C1 C2 l w hR _ rfl
 ·exact rsigned_bad hE.lt fun A hb=>rdeep_err p z T er a A (hE.below hb)
structure LevR (p z:Nat) (T:List Tok) (k:Nat) (L:Lev):Prop where
 o:RdE 33 p z T k L.o
 n:RdE 79 p z T k L.n
 s:RdE 132 p z T k L.s
theorem levR (p z:Nat) (T:List Tok):∀ n k,k+n=60→LevR p z T k (lev z n)
 | 0,k,hk=>by
  obtain rfl:k=60:=hk
  refine⟨fun res w h=>?_,fun res w h=>?_,fun res w h=>?_⟩
  ·rcases h with ⟨l,hR,rfl⟩ |⟨er,a,rfl,hE⟩
   ·exact ror_bad hR.lt fun A hb=>rdeep_no p z T l A (hR.below hb)
   ·exact ror_bad hE.lt fun A hb=>rdeep_err p z T er a A (hE.below hb)
  ·rcases h with ⟨l,hR,rfl⟩ |⟨er,a,rfl,hE⟩
   ·exact rnot_bad hR.lt fun A hb=>rdeep_no p z T l A (hR.below hb)
   ·exact rnot_bad hE.lt fun A hb=>rdeep_err p z T er a A (hE.below hb)
  ·rcases h with ⟨l,hR,rfl⟩ |⟨er,a,rfl,hE⟩
   ·exact rsigned_bad hR.lt fun A hb=>rdeep_no p z T l A (hR.below hb)
   ·exact rsigned_bad hE.lt fun A hb=>rdeep_err p z T er a A (hE.below hb)
 | n+1,k,hk=>by
  have ih:=levR p z T n (k+1) (by omega)
  have L:=lev_shr z n
  have hk':k<60:=by omega
  refine⟨ror_any hk' (rand_any ih.n L.n.keep) (chain_shr L.n _).keep,rnot_any hk' ih.n (rtest_any (rsum_any (nt:=bProd (lev z n).s) (rprod_any ih.s L.s.keep) (chain_shr L.s _).keep)),rsigned_any hk' ih.s (ratom_any ih.o)⟩
end Go.Proofs.YtapbglhjamddbaaGreatDoor
