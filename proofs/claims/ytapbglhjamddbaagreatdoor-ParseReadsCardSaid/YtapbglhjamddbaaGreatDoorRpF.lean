/- A part of the proof. -/
import Derived.Test.YtapbglhjamddbaaGreatDoorRpE
import Derived.Deep.CutBlock
import Derived.Test.YtapbglhjamddbaaGreatDoorHd
set_option linter.unusedSimpArgs false
set_option linter.unusedVariables false
namespace Go.Proofs.YtapbglhjamddbaaGreatDoor
open Go.RowKit Go.Deep
set_option maxRecDepth 100000
set_option maxHeartbeats 8000000 in
theorem rnot_bad {p z k er a:Nat} {T:List Tok} {w:World} (lp:p<w.heap.size) (hD:∀ A,Below w.heap.size w A→Calls Tryz.prog 62 #[.pointer (some ⟨p,0,none⟩)] A fun e w'=>e=.returned (.tuple #[])∧RE w' p z T er a∧Out (fun j=>j=p) A w'):Calls Tryz.prog 79 #[.pointer (some ⟨p,0,none⟩)] w (RAns ExV ShE p z T k (.err er a) w):=by
 obtain⟨A,hA⟩:∃ A,A=w.alloc (.cells #[.int .i64 0,.int .i64 0,.int .i64 0,.string ⟨#[]⟩,.int .i64 0,.int .i64 0,.int .i64 0,.string ⟨#[]⟩,.slice none 0 0] 44):=⟨_,rfl⟩
 have b0:Below w.heap.size w A:=by rw[hA];exact ext_alloc (ext_refl _) _
 have N0:BkA A w.heap.size zExpr:=by rw[hA];exact BkA.new w zExpr 44
 have C0:=zH (hD A b0)
 have HN:=zH N0
 have HB:=zH b0
 have HA:=zH hA
 have hpA:=Nat.lt_of_lt_of_le lp b0.size
 clear hD b0 N0 hA
 go_enter Tryz.func79,Tryz.ntmps79
 go_upto_region 1 with fail
 rw[← HA.out]
 obtain⟨gr,hgr⟩:∃ g,g=w.heap.size:=⟨_,rfl⟩
 have HGR:=zH hgr
 rw[← hgr] at HN ⊢
 clear HA
 go_wp2_with fail
 refine C0.out.mono ?_
 rintro e V ⟨rfl,hR,hO⟩
 have q2:=HN.out.outs hO (by omega)
 obtain⟨d0,d1,d2,d3,d4,d5,d6,d7,d8⟩:=q2.c9_ rfl
 have kl:=q2.lt
 have fz:=q2.fz
 obtain⟨dd,-,-,lpV,c3,-⟩:=hR.deep
 have hne:((er:Int) != 0)=true:=by rw[bne_iff_ne];have:=hR.ne;omega
 have HR:=zH hR
 have HO:=zH hO
 clear hR hO q2 hgr
 go_wp2_with fail
 have o9:=out9 V gr (.int .i64 0) (.int .i64 0) (.int .i64 0) (.string ⟨#[]⟩) (.int .i64 0) (.int .i64 0) (.int .i64 0) (.string ⟨#[]⟩) (.slice none 0 0)
 refine bodyPost_ret (v:=.agg #[.int .i64 0,.int .i64 0,.int .i64 0,.string ⟨#[]⟩,.int .i64 0,.int .i64 0,.int .i64 0,.string ⟨#[]⟩,.slice none 0 0]) (by simp[results,Tryz.results79,go_sem,d0,d1,d2,d3,d4,d5,d6,d7,d8]) rfl (RAns.mkErr rfl (Out.down ((((Out.of HB.out).trans (HO.out.up (N:=w.heap.size)))).trans (o9.mono fun j _ (hj:j=gr)=>.inr (by have:=HGR.out;omega)))) (shE ⟨0,zeroVal,0,0,0,⟨#[]⟩,none,0,0⟩) (HR.out.outs o9 fun j (hj:j=gr)=>by have:=HGR.out;omega))
set_option maxHeartbeats 8000000 in
theorem rnot_good {p z k:Nat} {T:List Tok} {nt ts:Rd Ex} (hk:k<60) (C1:RdE 79 p z T (k+1) nt) (C2:RdE 92 p z T (k+1) ts) (l:List Tok) (w:World) (h0:RO w p z T l k) (res:PR Ex) (hl:(if hSees kwNot l=true then (nt l.tail).map (exOne 17) else ts l)=res):Calls Tryz.prog 79 #[.pointer (some ⟨p,0,none⟩)] w (RAns ExV ShE p z T k res w):=by
 have HQ0:=zH hl
 have HC1:=zH C1
 have HC2:=zH C2
 clear C1 C2 hl
 obtain⟨A,hA⟩:∃ A,A=w.alloc (.cells #[.int .i64 0,.int .i64 0,.int .i64 0,.string ⟨#[]⟩,.int .i64 0,.int .i64 0,.int .i64 0,.string ⟨#[]⟩,.slice none 0 0] 44):=⟨_,rfl⟩
 have b0:Below w.heap.size w A:=by rw[hA];exact ext_alloc (ext_refl _) _
 have N0:BkA A w.heap.size zExpr:=by rw[hA];exact BkA.new w zExpr 44
 have C1:=zH (rdeep_yes p z k T l A (h0.below b0) hk)
 have HN0:=zH N0
 have HB0:=zH b0
 have HA:=zH hA
 have lp:=h0.lt
 have hpA:=Nat.lt_of_lt_of_le lp b0.size
 clear h0 b0 N0 hA hk
 go_enter Tryz.func79,Tryz.ntmps79
 go_upto_region 1 with fail
 rw[← HA.out]
 obtain⟨gr,hgr⟩:∃ g,g=w.heap.size:=⟨_,rfl⟩
 have HGR:=zH hgr
 rw[← hgr] at HN0 ⊢
 have hpr:p<gr:=by omega
 clear HA hgr
 go_wp2_with fail
 refine C1.out.mono ?_
 rintro e D ⟨rfl,hRD,hOD⟩
 obtain⟨-,-,lpD,c3,-⟩:=hRD.deep
 have HN:=zH (HN0.out.outs hOD (by omega))
 have HB:=zH ((Out.of (S:=fun j=>j=p∨w.heap.size≤j) HB0.out).trans (hOD.up (N:=w.heap.size)))
 obtain⟨Y0,hY0⟩:∃ V0,V0=D.alloc (.cells #[.int .i64 0,.int .i64 0,.int .i64 0,.string ⟨#[]⟩,.int .i64 0,.int .i64 0,.int .i64 0,.string ⟨#[]⟩,.slice none 0 0] 44):=⟨_,rfl⟩
 have bY0:Below D.heap.size D Y0:=by rw[hY0];exact ext_alloc (ext_refl _) _
 have kY0:BkA Y0 D.heap.size zExpr:=by rw[hY0];exact BkA.new D zExpr 44
 have hR0:=hRD.below bY0
 have hgX:gr<D.heap.size:=HN.out.lt
 have KG:=zH kY0
 have RG:=zH (HN.out.on bY0)
 have OG:=zH (HB.out.trans (Out.of bY0))
 have HY0:=zH hY0
 clear hRD hOD HN0 HB0 C1 hY0 bY0 kY0 HN HB
 go_upto_region 5 with fail
 rw[← HY0.out]
 obtain⟨ge,hge⟩:∃ g,g=D.heap.size:=⟨_,rfl⟩
 rw[← hge] at KG hgX ⊢
 clear HY0 hge c3 lpD
 rcases RO.word hR0 (s:=kwNot) (by decide) with ⟨t,l2,rfl,h1,hc⟩ |⟨h1,hc⟩
 ·
  have HQ:=zH (show (nt l2).map (exOne 17)=res by have h:=HQ0.out;rw[if_pos h1] at h;exact h)
  clear HQ0
  have WY:=zH (rword_yes p z (k+1) T t l2 kwNot Y0 hR0 hc)
  clear hR0 hc h1
  go_wp2_with fail
  refine WY.out.mono ?_
  rintro e1 X1 ⟨rfl,hR2,hO1⟩
  have CN:=zH (HC1.out _ X1 (.inl ⟨l2,hR2,rfl⟩))
  have HO1:=zH hO1
  clear hR2 hO1 WY
  go_wp2_with fail
  refine CN.out.mono ?_
  intro e2 Y hA2
  obtain⟨⟨hop,⟨hvk,hvn,hvs⟩,hrel,hcol,hn,hs,hq,hlen,hc⟩,rfl,hO2,hAlt2⟩:=hA2.alt (fun y r=>PR.ok (exOne 17 y) r)
  rw[show (nt l2).bind (fun y r=>PR.ok (exOne 17 y) r)=res by rw[← map_bind];exact HQ.out] at hAlt2
  obtain⟨Y2,hY2⟩:∃ V0,V0=Y.alloc (.cells #[.int .i64 hop,.int .i64 hvk,.int .i64 hvn,.string hvs,.int .i64 hrel,.int .i64 hcol,.int .i64 hn,.string hs,.slice hq hlen hc] 44):=⟨_,rfl⟩
  have bY2:Below Y.heap.size Y Y2:=by rw[hY2];exact ext_alloc (ext_refl _) _
  have kY2:BkA Y2 Y.heap.size (RawE.cells ⟨hop,⟨hvk,hvn,hvs⟩,hrel,hcol,hn,hs,hq,hlen,hc⟩):=by rw[hY2];exact BkA.new Y (RawE.cells ⟨hop,⟨hvk,hvn,hvs⟩,hrel,hcol,hn,hs,hq,hlen,hc⟩) 44
  have HY2:=zH hY2
  have HA2:=zH hAlt2
  have HB2:=zH bY2
  have q:=((KG.out.outs HO1.out (by omega)).outs hO2 (by omega)).on bY2
  have HGR2:=zH (((RG.out.outs HO1.out (by omega)).outs hO2 (by omega)).on bY2)
  have HOO:=zH (((OG.out.trans (HO1.out.up (N:=w.heap.size))).trans (hO2.up (N:=w.heap.size))).trans (Out.of bY2))
  obtain⟨d0,d1,d2,d3,d4,d5,d6,d7,d8⟩:=kY2.c9_ rfl
  have kl:=kY2.lt
  have HQ2:=zH q
  have hX1:=HO1.out.size
  have hXY:=hO2.size
  have hgY:=KG.out.lt
  clear hA2 hAlt2 hO2 hY2 bY2 q kY2 CN
  go_upto_region 8 with fail
  rw[← HY2.out]
  clear HY2
  obtain⟨g5,hg5⟩:∃ g,g=Y.heap.size:=⟨_,rfl⟩
  rw[← hg5] at kl d0 d1 d2 d3 d4 d5 d6 d7 d8 ⊢
  have HG5:=zH hg5
  clear hg5
  have W2:=zH (rone_any 17 ⟨hop,⟨hvk,hvn,hvs⟩,hrel,hcol,hn,hs,hq,hlen,hc⟩ Y2)
  go_wp2_with fail
  refine W2.out.mono ?_
  rintro e3 Z ⟨⟨nb,hn1,hn2,hcz,rfl⟩,hbZ⟩
  have qz:=HQ2.out.on hbZ
  obtain⟨u0,u1,u2,u3,u4,u5,u6,u7,u8⟩:=qz.c9_ rfl
  have zl:=qz.lt
  have zf:=qz.fz
  obtain⟨V,hV⟩:∃ V0,V0=(((((((((Z.setCell ⟨ge,0,none⟩ (.int .i64 17)).setCell ⟨ge,1,none⟩ (.int .i64 zeroVal.k)).setCell ⟨ge,2,none⟩ (.int .i64 zeroVal.n)).setCell ⟨ge,3,none⟩ (.string zeroVal.s)).setCell ⟨ge,4,none⟩ (.int .i64 0)).setCell ⟨ge,5,none⟩ (.int .i64 0)).setCell ⟨ge,6,none⟩ (.int .i64 0)).setCell ⟨ge,7,none⟩ (.string ⟨#[]⟩)).setCell ⟨ge,8,none⟩ (.slice (some ⟨nb,0,none⟩) 1 1)):=⟨_,rfl⟩
  have o9:Out (fun j=>j=ge) Z V:=by rw[hV];exact out9 Z ge _ _ _ _ _ _ _ _ _
  have NC:BkA V ge (exCells 17 zeroVal 0 0 0 ⟨#[]⟩ (some ⟨nb,0,none⟩) 1 1):=by rw[hV];exact qz.set9 _ _ _ _ _ _ _ _ _
  have s1:=HB2.out.size
  have s2:=hbZ.size
  have AV:=zH (Alt.one (op:=17) (f:=fun y r=>PR.ok y r) (P:=fun j=>gr+1≤j∧j≠ge) HA2.out (HB2.out.trans (hbZ.mono HB2.out.size)) hn2 hcz o9 (by omega) (fun j hj=>⟨by omega,by omega⟩) ⟨by omega,by omega⟩ (fun j hj=>hj.2))
  have KV:Hid (BkA V ge (RawE.cells ⟨17,zeroVal,0,0,0,⟨#[]⟩,some ⟨nb,0,none⟩,1,1⟩)):=zH NC
  have RV:=zH ((HGR2.out.on hbZ).outs o9 (by omega))
  have OV:=zH ((HOO.out.trans (Out.of hbZ)).trans (o9.mono fun j _ (hj:j=ge)=>.inr (by have:=HGR.out;omega)))
  have HV:=zH hV
  clear hn1 hcz hbZ qz o9 NC hV d0 d1 d2 d3 d4 d5 d6 d7 d8 kl W2 hX1 hXY hgY s1 s2
  go_upto_region 10 with fail
  rw[← HV.out]
  clear HV u0 u1 u2 u3 u4 u5 u6 u7 u8 zl zf hn2
  obtain⟨dd,p5,fzp,lpp,av2⟩:=Alt.dec AV.out
  obtain⟨V2,hV2⟩:∃ V0,V0=V.setCell ⟨p,5,none⟩ (.int .i64 (wrap64 (dd - 1))):=⟨_,rfl⟩
  have o5:Out (fun j=>j=p) V V2:=by rw[hV2];exact out_p _ _ _ _
  have AV2:=zH (show Alt V2 p z T k _ ⟨17,zeroVal,0,0,0,⟨#[]⟩,some ⟨nb,0,none⟩,1,1⟩ (fun e l=>.ok e l) res by rw[hV2];exact av2)
  have q:=KV.out.outs o5 (by omega)
  have q2:=RV.out.outs o5 (by omega)
  have OV2:=zH (OV.out.trans (o5.up (N:=w.heap.size)))
  have HV2:=zH hV2
  clear av2 hV2 o5
  go_upto_region 11 with fail
  rw[← HV2.out]
  clear HV2 p5 fzp lpp
  obtain⟨c0,c1,c2,c3,c4,c5,c6,c7,c8⟩:=q.c9_ rfl
  obtain⟨d0,d1,d2,d3,d4,d5,d6,d7,d8⟩:=q2.c9_ rfl
  have ql:=q.lt
  have kl:=q2.lt
  have fz:=q2.fz
  clear q q2
  go_wp2_with fail
  have o9:=out9 V2 gr (.int .i64 17) (.int .i64 0) (.int .i64 0) (.string ⟨#[]⟩) (.int .i64 0) (.int .i64 0) (.int .i64 0) (.string ⟨#[]⟩) (.slice (some ⟨nb,0,none⟩) 1 1)
  have hM:=(AV2.out).outs o9 (fun j (hj:j=gr)=>⟨by omega,fun h=>by have:=h.1;omega⟩) (Q:=fun j=>gr≤j) (fun j h _=>by have:=h.1;omega)
  refine bodyPost_ret (v:=.agg #[.int .i64 17,.int .i64 0,.int .i64 0,.string ⟨#[]⟩,.int .i64 0,.int .i64 0,.int .i64 0,.string ⟨#[]⟩,.slice (some ⟨nb,0,none⟩) 1 1]) (by simp[results,Tryz.results79,go_sem,zeroVal,d0,d1,d2,d3,d4,d5,d6,d7,d8]) rfl (hM.ans (Out.down ((OV2.out).trans (o9.mono fun j _ (hj:j=gr)=>.inr (by have:=HGR.out;omega)))) (fun j hj=>by have:=HGR.out;omega))
 ·
  have HQ:=zH (show ts l=res by have h:=HQ0.out;rw[if_neg (by rw[h1];decide)] at h;exact h)
  clear HQ0
  have WN:=zH (rword_no p z (k+1) T l kwNot Y0 hR0 hc)
  have HR0:=zH hR0
  clear hR0 hc h1
  go_wp2_with fail
  refine WN.out.mono ?_
  rintro e1 X1 ⟨rfl,hb1⟩
  have CN:=zH (HC2.out _ X1 (.inl ⟨l,HR0.out.below hb1,rfl⟩))
  have HB1:=zH hb1
  clear hb1 WN
  go_wp2_with fail
  refine CN.out.mono ?_
  intro e2 Y hA2
  obtain⟨⟨hop,⟨hvk,hvn,hvs⟩,hrel,hcol,hn,hs,hq,hlen,hc⟩,rfl,hO2,hAlt2⟩:=hA2.alt (fun y r=>PR.ok y r)
  rw[show (ts l).bind (fun y r=>PR.ok y r)=res by rw[bind_id];exact HQ.out] at hAlt2
  have qz:=(KG.out.on HB1.out).outs hO2 (by omega)
  obtain⟨u0,u1,u2,u3,u4,u5,u6,u7,u8⟩:=qz.c9_ rfl
  have zl:=qz.lt
  have zf:=qz.fz
  have hX1:=HB1.out.size
  have hgY:=KG.out.lt
  obtain⟨V,hV⟩:∃ V0,V0=((((((((((Y.setCell ⟨ge,0,none⟩ (.int .i64 hop)).setCell ⟨ge,1,none⟩ (.int .i64 hvk)).setCell ⟨ge,2,none⟩ (.int .i64 hvn)).setCell ⟨ge,3,none⟩ (.string hvs)).setCell ⟨ge,4,none⟩ (.int .i64 hrel)).setCell ⟨ge,5,none⟩ (.int .i64 hcol)).setCell ⟨ge,6,none⟩ (.int .i64 hn)).setCell ⟨ge,7,none⟩ (.string hs)).setCell ⟨ge,8,none⟩ (.slice hq hlen hc))):=⟨_,rfl⟩
  have o9:Out (fun j=>j=ge) Y V:=by rw[hV];exact out9 Y ge _ _ _ _ _ _ _ _ _
  have NC:BkA V ge (RawE.cells ⟨hop,⟨hvk,hvn,hvs⟩,hrel,hcol,hn,hs,hq,hlen,hc⟩):=by rw[hV];exact qz.set9 _ _ _ _ _ _ _ _ _
  have AV:=zH (hAlt2.outs o9 (fun j (hj:j=ge)=>⟨by omega,fun h=>by omega⟩) (Q:=fun j=>gr+1≤j∧j≠ge) (fun j hj _=>⟨by omega,by omega⟩))
  have KV:=zH NC
  have RV:=zH (((RG.out.on HB1.out).outs hO2 (by omega)).outs o9 (by omega))
  have OV:=zH (((OG.out.trans (Out.of HB1.out)).trans (hO2.up (N:=w.heap.size))).trans (o9.mono fun j _ (hj:j=ge)=>.inr (by have:=HGR.out;omega)))
  have HV:=zH hV
  clear hA2 hAlt2 hO2 qz o9 NC hV CN hX1 hgY
  go_upto_region 10 with fail
  rw[← HV.out]
  clear HV u0 u1 u2 u3 u4 u5 u6 u7 u8 zl zf
  obtain⟨dd,p5,fzp,lpp,av2⟩:=Alt.dec AV.out
  obtain⟨V2,hV2⟩:∃ V0,V0=V.setCell ⟨p,5,none⟩ (.int .i64 (wrap64 (dd - 1))):=⟨_,rfl⟩
  have o5:Out (fun j=>j=p) V V2:=by rw[hV2];exact out_p _ _ _ _
  have AV2:=zH (show Alt V2 p z T k _ ⟨hop,⟨hvk,hvn,hvs⟩,hrel,hcol,hn,hs,hq,hlen,hc⟩ (fun e l=>.ok e l) res by rw[hV2];exact av2)
  have q:=KV.out.outs o5 (by omega)
  have q2:=RV.out.outs o5 (by omega)
  have OV2:=zH (OV.out.trans (o5.up (N:=w.heap.size)))
  have HV2:=zH hV2
  clear av2 hV2 o5
  go_upto_region 11 with fail
  rw[← HV2.out]
  clear HV2 p5 fzp lpp
  obtain⟨c0,c1,c2,c3,c4,c5,c6,c7,c8⟩:=q.c9_ rfl
  obtain⟨d0,d1,d2,d3,d4,d5,d6,d7,d8⟩:=q2.c9_ rfl
  have ql:=q.lt
  have kl:=q2.lt
  have fz:=q2.fz
  clear q q2
  go_wp2_with fail
  have o9:=out9 V2 gr (.int .i64 hop) (.int .i64 hvk) (.int .i64 hvn) (.string hvs) (.int .i64 hrel) (.int .i64 hcol) (.int .i64 hn) (.string hs) (.slice hq hlen hc)
  have hM:=(AV2.out).outs o9 (fun j (hj:j=gr)=>⟨by omega,fun h=>by have:=h.1;omega⟩) (Q:=fun j=>gr≤j) (fun j h _=>by have:=h.1;omega)
  refine bodyPost_ret (v:=.agg #[.int .i64 hop,.int .i64 hvk,.int .i64 hvn,.string hvs,.int .i64 hrel,.int .i64 hcol,.int .i64 hn,.string hs,.slice hq hlen hc]) (by simp[results,Tryz.results79,go_sem,zeroVal,d0,d1,d2,d3,d4,d5,d6,d7,d8]) rfl (hM.ans (Out.down ((OV2.out).trans (o9.mono fun j _ (hj:j=gr)=>.inr (by have:=HGR.out;omega)))) (fun j hj=>by have:=HGR.out;omega))
set_option maxHeartbeats 8000000 in
theorem rsigned_bad {p z k er a:Nat} {T:List Tok} {w:World} (lp:p<w.heap.size) (hD:∀ A,Below w.heap.size w A→Calls Tryz.prog 62 #[.pointer (some ⟨p,0,none⟩)] A fun e w'=>e=.returned (.tuple #[])∧RE w' p z T er a∧Out (fun j=>j=p) A w'):Calls Tryz.prog 132 #[.pointer (some ⟨p,0,none⟩)] w (RAns ExV ShE p z T k (.err er a) w):=by
 obtain⟨A,hA⟩:∃ A,A=w.alloc (.cells #[.int .i64 0,.int .i64 0,.int .i64 0,.string ⟨#[]⟩,.int .i64 0,.int .i64 0,.int .i64 0,.string ⟨#[]⟩,.slice none 0 0] 44):=⟨_,rfl⟩
 have b0:Below w.heap.size w A:=by rw[hA];exact ext_alloc (ext_refl _) _
 have N0:BkA A w.heap.size zExpr:=by rw[hA];exact BkA.new w zExpr 44
 have C0:=zH (hD A b0)
 have HN:=zH N0
 have HB:=zH b0
 have HA:=zH hA
 have hpA:=Nat.lt_of_lt_of_le lp b0.size
 clear hD b0 N0 hA
 go_enter Tryz.func132,Tryz.ntmps132
 go_upto_region 1 with fail
 rw[← HA.out]
 obtain⟨gr,hgr⟩:∃ g,g=w.heap.size:=⟨_,rfl⟩
 have HGR:=zH hgr
 rw[← hgr] at HN ⊢
 clear HA
 go_wp2_with fail
 refine C0.out.mono ?_
 rintro e V ⟨rfl,hR,hO⟩
 have q2:=HN.out.outs hO (by omega)
 obtain⟨d0,d1,d2,d3,d4,d5,d6,d7,d8⟩:=q2.c9_ rfl
 have kl:=q2.lt
 have fz:=q2.fz
 obtain⟨dd,-,-,lpV,c3,-⟩:=hR.deep
 have hne:((er:Int) != 0)=true:=by rw[bne_iff_ne];have:=hR.ne;omega
 have HR:=zH hR
 have HO:=zH hO
 clear hR hO q2 hgr
 go_wp2_with fail
 have o9:=out9 V gr (.int .i64 0) (.int .i64 0) (.int .i64 0) (.string ⟨#[]⟩) (.int .i64 0) (.int .i64 0) (.int .i64 0) (.string ⟨#[]⟩) (.slice none 0 0)
 refine bodyPost_ret (v:=.agg #[.int .i64 0,.int .i64 0,.int .i64 0,.string ⟨#[]⟩,.int .i64 0,.int .i64 0,.int .i64 0,.string ⟨#[]⟩,.slice none 0 0]) (by simp[results,Tryz.results132,go_sem,d0,d1,d2,d3,d4,d5,d6,d7,d8]) rfl (RAns.mkErr rfl (Out.down ((((Out.of HB.out).trans (HO.out.up (N:=w.heap.size)))).trans (o9.mono fun j _ (hj:j=gr)=>.inr (by have:=HGR.out;omega)))) (shE ⟨0,zeroVal,0,0,0,⟨#[]⟩,none,0,0⟩) (HR.out.outs o9 fun j (hj:j=gr)=>by have:=HGR.out;omega))
set_option maxHeartbeats 8000000 in
theorem rsigned_good {p z k:Nat} {T:List Tok} {nt ts:Rd Ex} (hk:k<60) (C1:RdE 132 p z T (k+1) nt) (C2:RdE 138 p z T (k+1) ts) (l:List Tok) (w:World) (h0:RO w p z T l k) (res:PR Ex) (hl:(if hSees [45] l=true then (nt l.tail).map (exOne 8) else ts l)=res):Calls Tryz.prog 132 #[.pointer (some ⟨p,0,none⟩)] w (RAns ExV ShE p z T k res w):=by
 have HQ0:=zH hl
 have HC1:=zH C1
 have HC2:=zH C2
 clear C1 C2 hl
 obtain⟨A,hA⟩:∃ A,A=w.alloc (.cells #[.int .i64 0,.int .i64 0,.int .i64 0,.string ⟨#[]⟩,.int .i64 0,.int .i64 0,.int .i64 0,.string ⟨#[]⟩,.slice none 0 0] 44):=⟨_,rfl⟩
 have b0:Below w.heap.size w A:=by rw[hA];exact ext_alloc (ext_refl _) _
 have N0:BkA A w.heap.size zExpr:=by rw[hA];exact BkA.new w zExpr 44
 have C1:=zH (rdeep_yes p z k T l A (h0.below b0) hk)
 have HN0:=zH N0
 have HB0:=zH b0
 have HA:=zH hA
 have lp:=h0.lt
 have hpA:=Nat.lt_of_lt_of_le lp b0.size
 clear h0 b0 N0 hA hk
 go_enter Tryz.func132,Tryz.ntmps132
 go_upto_region 1 with fail
 rw[← HA.out]
 obtain⟨gr,hgr⟩:∃ g,g=w.heap.size:=⟨_,rfl⟩
 have HGR:=zH hgr
 rw[← hgr] at HN0 ⊢
 have hpr:p<gr:=by omega
 clear HA hgr
 go_wp2_with fail
 refine C1.out.mono ?_
 rintro e D ⟨rfl,hRD,hOD⟩
 obtain⟨-,-,lpD,c3,-⟩:=hRD.deep
 have HN:=zH (HN0.out.outs hOD (by omega))
 have HB:=zH ((Out.of (S:=fun j=>j=p∨w.heap.size≤j) HB0.out).trans (hOD.up (N:=w.heap.size)))
 obtain⟨Y0,hY0⟩:∃ V0,V0=D.alloc (.cells #[.int .i64 0,.int .i64 0,.int .i64 0,.string ⟨#[]⟩,.int .i64 0,.int .i64 0,.int .i64 0,.string ⟨#[]⟩,.slice none 0 0] 44):=⟨_,rfl⟩
 have bY0:Below D.heap.size D Y0:=by rw[hY0];exact ext_alloc (ext_refl _) _
 have kY0:BkA Y0 D.heap.size zExpr:=by rw[hY0];exact BkA.new D zExpr 44
 have hR0:=hRD.below bY0
 have hgX:gr<D.heap.size:=HN.out.lt
 have KG:=zH kY0
 have RG:=zH (HN.out.on bY0)
 have OG:=zH (HB.out.trans (Out.of bY0))
 have HY0:=zH hY0
 clear hRD hOD HN0 HB0 C1 hY0 bY0 kY0 HN HB
 go_upto_region 5 with fail
 rw[← HY0.out]
 obtain⟨ge,hge⟩:∃ g,g=D.heap.size:=⟨_,rfl⟩
 rw[← hge] at KG hgX ⊢
 clear HY0 hge c3 lpD
 rcases RO.sign hR0 (s:=[45]) (by decide) with ⟨t,l2,rfl,h1,hc⟩ |⟨h1,hc⟩
 ·
  have HQ:=zH (show (nt l2).map (exOne 8)=res by have h:=HQ0.out;rw[if_pos h1] at h;exact h)
  clear HQ0
  have WY:=zH (rsign_yes p z (k+1) T t l2 [45] Y0 hR0 hc)
  clear hR0 hc h1
  go_wp2_with fail
  refine WY.out.mono ?_
  rintro e1 X1 ⟨rfl,hR2,hO1⟩
  have CN:=zH (HC1.out _ X1 (.inl ⟨l2,hR2,rfl⟩))
  have HO1:=zH hO1
  clear hR2 hO1 WY
  go_wp2_with fail
  refine CN.out.mono ?_
  intro e2 Y hA2
  obtain⟨⟨hop,⟨hvk,hvn,hvs⟩,hrel,hcol,hn,hs,hq,hlen,hc⟩,rfl,hO2,hAlt2⟩:=hA2.alt (fun y r=>PR.ok (exOne 8 y) r)
  rw[show (nt l2).bind (fun y r=>PR.ok (exOne 8 y) r)=res by rw[← map_bind];exact HQ.out] at hAlt2
  obtain⟨Y2,hY2⟩:∃ V0,V0=Y.alloc (.cells #[.int .i64 hop,.int .i64 hvk,.int .i64 hvn,.string hvs,.int .i64 hrel,.int .i64 hcol,.int .i64 hn,.string hs,.slice hq hlen hc] 44):=⟨_,rfl⟩
  have bY2:Below Y.heap.size Y Y2:=by rw[hY2];exact ext_alloc (ext_refl _) _
  have kY2:BkA Y2 Y.heap.size (RawE.cells ⟨hop,⟨hvk,hvn,hvs⟩,hrel,hcol,hn,hs,hq,hlen,hc⟩):=by rw[hY2];exact BkA.new Y (RawE.cells ⟨hop,⟨hvk,hvn,hvs⟩,hrel,hcol,hn,hs,hq,hlen,hc⟩) 44
  have HY2:=zH hY2
  have HA2:=zH hAlt2
  have HB2:=zH bY2
  have q:=((KG.out.outs HO1.out (by omega)).outs hO2 (by omega)).on bY2
  have HGR2:=zH (((RG.out.outs HO1.out (by omega)).outs hO2 (by omega)).on bY2)
  have HOO:=zH (((OG.out.trans (HO1.out.up (N:=w.heap.size))).trans (hO2.up (N:=w.heap.size))).trans (Out.of bY2))
  obtain⟨d0,d1,d2,d3,d4,d5,d6,d7,d8⟩:=kY2.c9_ rfl
  have kl:=kY2.lt
  have HQ2:=zH q
  have hX1:=HO1.out.size
  have hXY:=hO2.size
  have hgY:=KG.out.lt
  clear hA2 hAlt2 hO2 hY2 bY2 q kY2 CN
  go_upto_region 8 with fail
  rw[← HY2.out]
  clear HY2
  obtain⟨g5,hg5⟩:∃ g,g=Y.heap.size:=⟨_,rfl⟩
  rw[← hg5] at kl d0 d1 d2 d3 d4 d5 d6 d7 d8 ⊢
  have HG5:=zH hg5
  clear hg5
  have W2:=zH (rone_any 8 ⟨hop,⟨hvk,hvn,hvs⟩,hrel,hcol,hn,hs,hq,hlen,hc⟩ Y2)
  go_wp2_with fail
  refine W2.out.mono ?_
  rintro e3 Z ⟨⟨nb,hn1,hn2,hcz,rfl⟩,hbZ⟩
  have qz:=HQ2.out.on hbZ
  obtain⟨u0,u1,u2,u3,u4,u5,u6,u7,u8⟩:=qz.c9_ rfl
  have zl:=qz.lt
  have zf:=qz.fz
  obtain⟨V,hV⟩:∃ V0,V0=(((((((((Z.setCell ⟨ge,0,none⟩ (.int .i64 8)).setCell ⟨ge,1,none⟩ (.int .i64 zeroVal.k)).setCell ⟨ge,2,none⟩ (.int .i64 zeroVal.n)).setCell ⟨ge,3,none⟩ (.string zeroVal.s)).setCell ⟨ge,4,none⟩ (.int .i64 0)).setCell ⟨ge,5,none⟩ (.int .i64 0)).setCell ⟨ge,6,none⟩ (.int .i64 0)).setCell ⟨ge,7,none⟩ (.string ⟨#[]⟩)).setCell ⟨ge,8,none⟩ (.slice (some ⟨nb,0,none⟩) 1 1)):=⟨_,rfl⟩
  have o9:Out (fun j=>j=ge) Z V:=by rw[hV];exact out9 Z ge _ _ _ _ _ _ _ _ _
  have NC:BkA V ge (exCells 8 zeroVal 0 0 0 ⟨#[]⟩ (some ⟨nb,0,none⟩) 1 1):=by rw[hV];exact qz.set9 _ _ _ _ _ _ _ _ _
  have s1:=HB2.out.size
  have s2:=hbZ.size
  have AV:=zH (Alt.one (op:=8) (f:=fun y r=>PR.ok y r) (P:=fun j=>gr+1≤j∧j≠ge) HA2.out (HB2.out.trans (hbZ.mono HB2.out.size)) hn2 hcz o9 (by omega) (fun j hj=>⟨by omega,by omega⟩) ⟨by omega,by omega⟩ (fun j hj=>hj.2))
  have KV:Hid (BkA V ge (RawE.cells ⟨8,zeroVal,0,0,0,⟨#[]⟩,some ⟨nb,0,none⟩,1,1⟩)):=zH NC
  have RV:=zH ((HGR2.out.on hbZ).outs o9 (by omega))
  have OV:=zH ((HOO.out.trans (Out.of hbZ)).trans (o9.mono fun j _ (hj:j=ge)=>.inr (by have:=HGR.out;omega)))
  have HV:=zH hV
  clear hn1 hcz hbZ qz o9 NC hV d0 d1 d2 d3 d4 d5 d6 d7 d8 kl W2 hX1 hXY hgY s1 s2
  go_upto_region 10 with fail
  rw[← HV.out]
  clear HV u0 u1 u2 u3 u4 u5 u6 u7 u8 zl zf hn2
  obtain⟨dd,p5,fzp,lpp,av2⟩:=Alt.dec AV.out
  obtain⟨V2,hV2⟩:∃ V0,V0=V.setCell ⟨p,5,none⟩ (.int .i64 (wrap64 (dd - 1))):=⟨_,rfl⟩
  have o5:Out (fun j=>j=p) V V2:=by rw[hV2];exact out_p _ _ _ _
  have AV2:=zH (show Alt V2 p z T k _ ⟨8,zeroVal,0,0,0,⟨#[]⟩,some ⟨nb,0,none⟩,1,1⟩ (fun e l=>.ok e l) res by rw[hV2];exact av2)
  have q:=KV.out.outs o5 (by omega)
  have q2:=RV.out.outs o5 (by omega)
  have OV2:=zH (OV.out.trans (o5.up (N:=w.heap.size)))
  have HV2:=zH hV2
  clear av2 hV2 o5
  go_upto_region 11 with fail
  rw[← HV2.out]
  clear HV2 p5 fzp lpp
  obtain⟨c0,c1,c2,c3,c4,c5,c6,c7,c8⟩:=q.c9_ rfl
  obtain⟨d0,d1,d2,d3,d4,d5,d6,d7,d8⟩:=q2.c9_ rfl
  have ql:=q.lt
  have kl:=q2.lt
  have fz:=q2.fz
  clear q q2
  go_wp2_with fail
  have o9:=out9 V2 gr (.int .i64 8) (.int .i64 0) (.int .i64 0) (.string ⟨#[]⟩) (.int .i64 0) (.int .i64 0) (.int .i64 0) (.string ⟨#[]⟩) (.slice (some ⟨nb,0,none⟩) 1 1)
  have hM:=(AV2.out).outs o9 (fun j (hj:j=gr)=>⟨by omega,fun h=>by have:=h.1;omega⟩) (Q:=fun j=>gr≤j) (fun j h _=>by have:=h.1;omega)
  refine bodyPost_ret (v:=.agg #[.int .i64 8,.int .i64 0,.int .i64 0,.string ⟨#[]⟩,.int .i64 0,.int .i64 0,.int .i64 0,.string ⟨#[]⟩,.slice (some ⟨nb,0,none⟩) 1 1]) (by simp[results,Tryz.results132,go_sem,zeroVal,d0,d1,d2,d3,d4,d5,d6,d7,d8]) rfl (hM.ans (Out.down ((OV2.out).trans (o9.mono fun j _ (hj:j=gr)=>.inr (by have:=HGR.out;omega)))) (fun j hj=>by have:=HGR.out;omega))
 ·
  have HQ:=zH (show ts l=res by have h:=HQ0.out;rw[if_neg (by rw[h1];decide)] at h;exact h)
  clear HQ0
  have WN:=zH (rsign_no p z (k+1) T l [45] Y0 hR0 hc)
  have HR0:=zH hR0
  clear hR0 hc h1
  go_wp2_with fail
  refine WN.out.mono ?_
  rintro e1 X1 ⟨rfl,hb1⟩
  have CN:=zH (HC2.out _ X1 (.inl ⟨l,HR0.out.below hb1,rfl⟩))
  have HB1:=zH hb1
  clear hb1 WN
  go_wp2_with fail
  refine CN.out.mono ?_
  intro e2 Y hA2
  obtain⟨⟨hop,⟨hvk,hvn,hvs⟩,hrel,hcol,hn,hs,hq,hlen,hc⟩,rfl,hO2,hAlt2⟩:=hA2.alt (fun y r=>PR.ok y r)
  rw[show (ts l).bind (fun y r=>PR.ok y r)=res by rw[bind_id];exact HQ.out] at hAlt2
  have qz:=(KG.out.on HB1.out).outs hO2 (by omega)
  obtain⟨u0,u1,u2,u3,u4,u5,u6,u7,u8⟩:=qz.c9_ rfl
  have zl:=qz.lt
  have zf:=qz.fz
  have hX1:=HB1.out.size
  have hgY:=KG.out.lt
  obtain⟨V,hV⟩:∃ V0,V0=((((((((((Y.setCell ⟨ge,0,none⟩ (.int .i64 hop)).setCell ⟨ge,1,none⟩ (.int .i64 hvk)).setCell ⟨ge,2,none⟩ (.int .i64 hvn)).setCell ⟨ge,3,none⟩ (.string hvs)).setCell ⟨ge,4,none⟩ (.int .i64 hrel)).setCell ⟨ge,5,none⟩ (.int .i64 hcol)).setCell ⟨ge,6,none⟩ (.int .i64 hn)).setCell ⟨ge,7,none⟩ (.string hs)).setCell ⟨ge,8,none⟩ (.slice hq hlen hc))):=⟨_,rfl⟩
  have o9:Out (fun j=>j=ge) Y V:=by rw[hV];exact out9 Y ge _ _ _ _ _ _ _ _ _
  have NC:BkA V ge (RawE.cells ⟨hop,⟨hvk,hvn,hvs⟩,hrel,hcol,hn,hs,hq,hlen,hc⟩):=by rw[hV];exact qz.set9 _ _ _ _ _ _ _ _ _
  have AV:=zH (hAlt2.outs o9 (fun j (hj:j=ge)=>⟨by omega,fun h=>by omega⟩) (Q:=fun j=>gr+1≤j∧j≠ge) (fun j hj _=>⟨by omega,by omega⟩))
  have KV:=zH NC
  have RV:=zH (((RG.out.on HB1.out).outs hO2 (by omega)).outs o9 (by omega))
  have OV:=zH (((OG.out.trans (Out.of HB1.out)).trans (hO2.up (N:=w.heap.size))).trans (o9.mono fun j _ (hj:j=ge)=>.inr (by have:=HGR.out;omega)))
  have HV:=zH hV
  clear hA2 hAlt2 hO2 qz o9 NC hV CN hX1 hgY
  go_upto_region 10 with fail
  rw[← HV.out]
  clear HV u0 u1 u2 u3 u4 u5 u6 u7 u8 zl zf
  obtain⟨dd,p5,fzp,lpp,av2⟩:=Alt.dec AV.out
  obtain⟨V2,hV2⟩:∃ V0,V0=V.setCell ⟨p,5,none⟩ (.int .i64 (wrap64 (dd - 1))):=⟨_,rfl⟩
  have o5:Out (fun j=>j=p) V V2:=by rw[hV2];exact out_p _ _ _ _
  have AV2:=zH (show Alt V2 p z T k _ ⟨hop,⟨hvk,hvn,hvs⟩,hrel,hcol,hn,hs,hq,hlen,hc⟩ (fun e l=>.ok e l) res by rw[hV2];exact av2)
  have q:=KV.out.outs o5 (by omega)
  have q2:=RV.out.outs o5 (by omega)
  have OV2:=zH (OV.out.trans (o5.up (N:=w.heap.size)))
  have HV2:=zH hV2
  clear av2 hV2 o5
  go_upto_region 11 with fail
  rw[← HV2.out]
  clear HV2 p5 fzp lpp
  obtain⟨c0,c1,c2,c3,c4,c5,c6,c7,c8⟩:=q.c9_ rfl
  obtain⟨d0,d1,d2,d3,d4,d5,d6,d7,d8⟩:=q2.c9_ rfl
  have ql:=q.lt
  have kl:=q2.lt
  have fz:=q2.fz
  clear q q2
  go_wp2_with fail
  have o9:=out9 V2 gr (.int .i64 hop) (.int .i64 hvk) (.int .i64 hvn) (.string hvs) (.int .i64 hrel) (.int .i64 hcol) (.int .i64 hn) (.string hs) (.slice hq hlen hc)
  have hM:=(AV2.out).outs o9 (fun j (hj:j=gr)=>⟨by omega,fun h=>by have:=h.1;omega⟩) (Q:=fun j=>gr≤j) (fun j h _=>by have:=h.1;omega)
  refine bodyPost_ret (v:=.agg #[.int .i64 hop,.int .i64 hvk,.int .i64 hvn,.string hvs,.int .i64 hrel,.int .i64 hcol,.int .i64 hn,.string hs,.slice hq hlen hc]) (by simp[results,Tryz.results132,go_sem,zeroVal,d0,d1,d2,d3,d4,d5,d6,d7,d8]) rfl (hM.ans (Out.down ((OV2.out).trans (o9.mono fun j _ (hj:j=gr)=>.inr (by have:=HGR.out;omega)))) (fun j hj=>by have:=HGR.out;omega))
end Go.Proofs.YtapbglhjamddbaaGreatDoor
