/- A part of the proof. -/
import Derived.Test.YtapbglhjamddbaaGreatDoorRpD
import Derived.Deep.CutBlock
import Derived.Test.YtapbglhjamddbaaGreatDoorHd
set_option linter.unusedSimpArgs false
set_option linter.unusedVariables false
namespace Go.Proofs.YtapbglhjamddbaaGreatDoor
open Go.RowKit Go.Deep
set_option maxRecDepth 100000
set_option maxHeartbeats 8000000 in
theorem rand_any {p z k:Nat} {T:List Tok} {nt:Rd Ex} (C:RdE 79 p z T k nt) (hK:Keep nt):RdE 63 p z T k (bAnd nt):=fun res w h=>by
 obtain⟨res0,h0,rfl⟩:=St0.bind (one:=nt) (f:=chainW nt opsAnd) h
 have lp:=h0.lt
 obtain⟨A,hA⟩:∃ A,A=w.alloc (.cells #[.int .i64 0,.int .i64 0,.int .i64 0,.string ⟨#[]⟩,.int .i64 0,.int .i64 0,.int .i64 0,.string ⟨#[]⟩,.slice none 0 0] 44):=⟨_,rfl⟩
 have b0:Below w.heap.size w A:=by rw[hA];exact ext_alloc (ext_refl _) _
 have N0:BkA A w.heap.size zExpr:=by rw[hA];exact BkA.new w zExpr 44
 have C0:=zH (C res0 A (h0.below b0))
 have HN:=zH N0
 have HB:=zH (Out.of (S:=fun j=>j=p∨w.heap.size≤j) b0)
 have HA:=zH hA
 have hpA:=Nat.lt_of_lt_of_le lp b0.size
 have HC:=zH C
 have HK:=zH hK
 clear h h0 b0 N0 hA C hK
 go_enter Tryz.func63,Tryz.ntmps63
 go_upto_region 1 with fail
 rw[← HA.out]
 obtain⟨gr,hgr⟩:∃ g,g=w.heap.size:=⟨_,rfl⟩
 have HGR:=zH hgr
 rw[← hgr] at HN ⊢
 have hpr:p<gr:=by omega
 clear HA hgr
 go_wp2_with fail
 refine C0.out.mono ?_
 intro e X hA
 obtain⟨⟨fop,⟨fvk,fvn,fvs⟩,frel,fcol,fn,fs,fq,flen,fc⟩,rfl,hO,hAlt⟩:=hA.alt (chainW nt opsAnd)
 obtain⟨Y,hY⟩:∃ V0,V0=X.alloc (.cells #[.int .i64 fop,.int .i64 fvk,.int .i64 fvn,.string fvs,.int .i64 frel,.int .i64 fcol,.int .i64 fn,.string fs,.slice fq flen fc] 44):=⟨_,rfl⟩
 have bY:Below X.heap.size X Y:=by rw[hY];exact ext_alloc (ext_refl _) _
 have kY:BkA Y X.heap.size (RawE.cells ⟨fop,⟨fvk,fvn,fvs⟩,frel,fcol,fn,fs,fq,flen,fc⟩):=by rw[hY];exact BkA.new X (RawE.cells ⟨fop,⟨fvk,fvn,fvs⟩,frel,fcol,fn,fs,fq,flen,fc⟩) 44
 have HY:=zH hY
 have RC:RCL w Y p X.heap.size gr ⟨fop,⟨fvk,fvn,fvs⟩,frel,fcol,fn,fs,fq,flen,fc⟩:=⟨kY,(HN.out.outs hO (by omega)).on bY,(HB.out.trans (hO.up (N:=w.heap.size))).trans (Out.of bY)⟩
 have hAY:=hAlt.below bY (Q:=fun j=>gr+1≤j∧j≠X.heap.size) (fun j h1 h2=>⟨by have h3:=HN.out.lt;omega,by omega⟩)
 have hgX:gr<X.heap.size:=Nat.lt_of_lt_of_le HN.out.lt hO.size
 have HRC:=zH RC
 have HAY:=zH hAY
 clear hA hO hAlt hY bY kY RC hAY C0 HN HB
 go_upto_block 0 with fail
 rw[← HY.out]
 obtain⟨ge,hge⟩:∃ g,g=X.heap.size:=⟨_,rfl⟩
 rw[← hge] at HRC HAY hgX ⊢
 clear HY hge
 obtain⟨res,hres⟩:∃ r,r=res0.bind (chainW nt opsAnd):=⟨_,rfl⟩
 rw[← hres] at HAY ⊢
 clear hres
 go_wp2_with fail
 go_loopw [4] (fun _ wr=>∃ r:RawE,Hid (RCL w wr p ge gr r)∧Hid (Alt wr p z T k (fun j=>gr+1≤j∧j≠ge) r (chainW nt opsAnd) res)) (fun _ wr=>rleft wr p)
 case atStart=>exact⟨_,HRC.out,HAY.out⟩
 case round =>
  obtain⟨⟨gop,⟨gvk,gvn,gvs⟩,grel,gcol,gn,gs,gq,glen,gc⟩,hR,hS⟩:=hrel
  obtain⟨W,hW⟩:∃ W,W=wr:=⟨_,rfl⟩
  rw[← hW] at hR hS ⊢
  clear hW HRC HAY
  have HR:=zH hR.out
  clear hR
  rcases Alt.chain HK.out (by decide) hS.out with ⟨e,t,l2,hR1,hc,hx,hq⟩ |⟨WN,AL⟩
  ·
   have HX:=zH hx
   have HQ:=zH (show (nt l2).bind (fun y r=>chainW nt opsAnd (exTwo 15 e y) r)=res from hq)
   have hm2:=hR1.left
   have HM2:=zH hm2
   have WY:=zH (rword_yes p z k T t l2 kwAnd W hR1 hc)
   clear hR1 hc hx hq hS hm2
   go_wp2_with fail
   refine WY.out.mono ?_
   rintro e1 X1 ⟨rfl,hR2,hO1⟩
   clear WY
   have CN:=zH (HC.out _ X1 (.inl ⟨l2,hR2,rfl⟩))
   have HO1:=zH hO1
   clear hR2 hO1
   go_wp2_with fail
   refine CN.out.mono ?_
   intro e2 Y hA2
   have HLF:=zH (RAns.left HK.out hA2)
   obtain⟨⟨hop,⟨hvk,hvn,hvs⟩,hrel,hcol,hn,hs,hq,hlen,hc⟩,rfl,hO2,hAlt2⟩:=hA2.alt (fun y r=>chainW nt opsAnd (exTwo 15 e y) r)
   rw[HQ.out] at hAlt2
   obtain⟨Y2,hY2⟩:∃ V0,V0=Y.alloc (.cells #[.int .i64 hop,.int .i64 hvk,.int .i64 hvn,.string hvs,.int .i64 hrel,.int .i64 hcol,.int .i64 hn,.string hs,.slice hq hlen hc] 44):=⟨_,rfl⟩
   have bY2:Below Y.heap.size Y Y2:=by rw[hY2];exact ext_alloc (ext_refl _) _
   have kY2:BkA Y2 Y.heap.size (RawE.cells ⟨hop,⟨hvk,hvn,hvs⟩,hrel,hcol,hn,hs,hq,hlen,hc⟩):=by rw[hY2];exact BkA.new Y (RawE.cells ⟨hop,⟨hvk,hvn,hvs⟩,hrel,hcol,hn,hs,hq,hlen,hc⟩) 44
   have HY2:=zH hY2
   have HA2:=zH hAlt2
   have HO2:=zH hO2
   have HB2:=zH bY2
   have q:=((HR.out.val.outs HO1.out (by have:=HR.out.res.lt;omega)).outs hO2 (by omega)).on bY2
   obtain⟨c0,c1,c2,c3,c4,c5,c6,c7,c8⟩:=q.c9_ rfl
   obtain⟨d0,d1,d2,d3,d4,d5,d6,d7,d8⟩:=kY2.c9_ rfl
   have ql:=q.lt
   have kl:=kY2.lt
   have fz:=q.fz
   have HQ2:=zH q
   have HK2:=zH kY2
   clear hA2 hAlt2 hO2 hY2 bY2 q kY2 CN
   go_upto_region 6 with fail
   rw[← HY2.out]
   clear HY2
   obtain⟨g5,hg5⟩:∃ g,g=Y.heap.size:=⟨_,rfl⟩
   rw[← hg5] at HK2 kl d0 d1 d2 d3 d4 d5 d6 d7 d8 ⊢
   have HG5:=zH hg5
   clear hg5
   have W2:=zH (rtwo_any 15 ⟨gop,⟨gvk,gvn,gvs⟩,grel,gcol,gn,gs,gq,glen,gc⟩ ⟨hop,⟨hvk,hvn,hvs⟩,hrel,hcol,hn,hs,hq,hlen,hc⟩ Y2)
   go_wp2_with fail
   refine W2.out.mono ?_
   rintro e3 Z ⟨⟨nb,hn1,hn2,hcz,rfl⟩,hbZ⟩
   have qz:=HQ2.out.on hbZ
   obtain⟨u0,u1,u2,u3,u4,u5,u6,u7,u8⟩:=qz.c9_ rfl
   have zl:=qz.lt
   have zf:=qz.fz
   have o9:=out9 Z ge (.int .i64 15) (.int .i64 0) (.int .i64 0) (.string ⟨#[]⟩) (.int .i64 0) (.int .i64 0) (.int .i64 0) (.string ⟨#[]⟩) (.slice (some ⟨nb,0,none⟩) 2 2)
   have NC:=qz.set9 (.int .i64 15) (.int .i64 0) (.int .i64 0) (.string ⟨#[]⟩) (.int .i64 0) (.int .i64 0) (.int .i64 0) (.string ⟨#[]⟩) (.slice (some ⟨nb,0,none⟩) 2 2)
   have ST:=zH (RCL.step (X1:=X1) (Y:=Y) (op:=15) (f:=chainW nt opsAnd) (res:=res) (ry:=⟨hop,⟨hvk,hvn,hvs⟩,hrel,hcol,hn,hs,hq,hlen,hc⟩) HR.out (by rw[HGR.out];exact Nat.le_refl _) hgX hpr HX.out HO1.out HO2.out HA2.out (HB2.out.trans (hbZ.mono HB2.out.size)) (Nat.le_trans HB2.out.size hn1) hn2 hcz o9 NC)
   have HLT:=zH (show rleft (((((((((Z.setCell ⟨ge,0,none⟩ (.int .i64 15)).setCell ⟨ge,1,none⟩ (.int .i64 0)).setCell ⟨ge,2,none⟩ (.int .i64 0)).setCell ⟨ge,3,none⟩ (.string ⟨#[]⟩)).setCell ⟨ge,4,none⟩ (.int .i64 0)).setCell ⟨ge,5,none⟩ (.int .i64 0)).setCell ⟨ge,6,none⟩ (.int .i64 0)).setCell ⟨ge,7,none⟩ (.string ⟨#[]⟩)).setCell ⟨ge,8,none⟩ (.slice (some ⟨nb,0,none⟩) 2 2)) p<rleft W p by
    rw[HM2.out]
    have hpY:p<Y.heap.size:=Nat.lt_of_lt_of_le (Nat.lt_of_lt_of_le (Nat.lt_trans hpr HR.out.res.lt) HO1.out.size) HO2.out.size
    have e1:=rleft_on ((o9.block p (Nat.lt_of_lt_of_le (Nat.lt_of_lt_of_le hpY HB2.out.size) hbZ.size) (by omega)).trans ((hbZ.block p (Nat.lt_of_lt_of_le hpY HB2.out.size)).trans (HB2.out.block p hpY)))
    rw[e1]
    have:=HLF.out
    simp only[List.length_cons]
    omega)
   clear hn1 hn2 hcz hbZ qz o9 NC c0 c1 c2 c3 c4 c5 c6 c7 c8 d0 d1 d2 d3 d4 d5 d6 d7 d8 kl ql fz W2
   go_wp2_with fail
   go_roundw
   case rel=>exact⟨_,ST.out.1,ST.out.2⟩
   case measure=>exact HLT.out
  ·
   have HW:=zH WN
   have HAL:=zH AL
   clear WN AL hS
   go_wp2_with fail
   refine HW.out.mono ?_
   rintro e1 V ⟨rfl,hb⟩
   have KV:=zH (HR.out.val.on hb)
   have RV:=zH (HR.out.res.on hb)
   have AV:=zH (HAL.out.below hb (Q:=fun j=>gr+1≤j∧j≠ge) (fun _ h _=>h))
   have OV:=zH (HR.out.out.trans (Out.of hb))
   clear hb
   have q:=KV.out
   have q2:=RV.out
   obtain⟨c0,c1,c2,c3,c4,c5,c6,c7,c8⟩:=q.c9_ rfl
   obtain⟨d0,d1,d2,d3,d4,d5,d6,d7,d8⟩:=q2.c9_ rfl
   have ql:=q.lt
   have kl:=q2.lt
   have fz:=q2.fz
   clear q q2
   go_wp2_with fail
   have o9:=out9 V gr (.int .i64 gop) (.int .i64 gvk) (.int .i64 gvn) (.string gvs) (.int .i64 grel) (.int .i64 gcol) (.int .i64 gn) (.string gs) (.slice gq glen gc)
   have hM:=(AV.out).outs o9 (fun j (hj:j=gr)=>⟨by omega,fun h=>by have:=h.1;omega⟩) (Q:=fun j=>gr≤j) (fun j h _=>by have:=h.1;omega)
   refine bodyPost_ret (v:=.agg #[.int .i64 gop,.int .i64 gvk,.int .i64 gvn,.string gvs,.int .i64 grel,.int .i64 gcol,.int .i64 gn,.string gs,.slice gq glen gc]) (by simp[results,Tryz.results63,go_sem,zeroVal,d0,d1,d2,d3,d4,d5,d6,d7,d8]) rfl (hM.ans (Out.down ((OV.out).trans (o9.mono fun j _ (hj:j=gr)=>.inr (by have:=HGR.out;omega)))) (fun j hj=>by have:=HGR.out;omega))
set_option maxHeartbeats 8000000 in
theorem ror_bad {p z k er a:Nat} {T:List Tok} {w:World} (lp:p<w.heap.size) (hD:∀ A,Below w.heap.size w A→Calls Tryz.prog 62 #[.pointer (some ⟨p,0,none⟩)] A fun e w'=>e=.returned (.tuple #[])∧RE w' p z T er a∧Out (fun j=>j=p) A w'):Calls Tryz.prog 33 #[.pointer (some ⟨p,0,none⟩)] w (RAns ExV ShE p z T k (.err er a) w):=by
 obtain⟨A,hA⟩:∃ A,A=w.alloc (.cells #[.int .i64 0,.int .i64 0,.int .i64 0,.string ⟨#[]⟩,.int .i64 0,.int .i64 0,.int .i64 0,.string ⟨#[]⟩,.slice none 0 0] 44):=⟨_,rfl⟩
 have b0:Below w.heap.size w A:=by rw[hA];exact ext_alloc (ext_refl _) _
 have N0:BkA A w.heap.size zExpr:=by rw[hA];exact BkA.new w zExpr 44
 have C0:=zH (hD A b0)
 have HN:=zH N0
 have HB:=zH b0
 have HA:=zH hA
 have hpA:=Nat.lt_of_lt_of_le lp b0.size
 clear hD b0 N0 hA
 go_enter Tryz.func33,Tryz.ntmps33
 go_upto_region 1 with fail
 rw[← HA.out]
 obtain⟨gr,hgr⟩:∃ g,g=w.heap.size:=⟨_,rfl⟩
 have HGR:=zH hgr
 rw[← hgr] at HN ⊢
 clear HA
 go_wp2_with fail
 refine C0.out.mono ?_
 rintro e V ⟨rfl,hR,hO⟩
 have q2:=HN.out.outs hO (by omega)
 obtain⟨d0,d1,d2,d3,d4,d5,d6,d7,d8⟩:=q2.c9_ rfl
 have kl:=q2.lt
 have fz:=q2.fz
 obtain⟨dd,-,-,lpV,c3,-⟩:=hR.deep
 have hne:((er:Int) != 0)=true:=by rw[bne_iff_ne];have:=hR.ne;omega
 have HR:=zH hR
 have HO:=zH hO
 clear hR hO q2 hgr
 go_wp2_with fail
 have o9:=out9 V gr (.int .i64 0) (.int .i64 0) (.int .i64 0) (.string ⟨#[]⟩) (.int .i64 0) (.int .i64 0) (.int .i64 0) (.string ⟨#[]⟩) (.slice none 0 0)
 refine bodyPost_ret (v:=.agg #[.int .i64 0,.int .i64 0,.int .i64 0,.string ⟨#[]⟩,.int .i64 0,.int .i64 0,.int .i64 0,.string ⟨#[]⟩,.slice none 0 0]) (by simp[results,Tryz.results33,go_sem,d0,d1,d2,d3,d4,d5,d6,d7,d8]) rfl (RAns.mkErr rfl (Out.down ((((Out.of HB.out).trans (HO.out.up (N:=w.heap.size)))).trans (o9.mono fun j _ (hj:j=gr)=>.inr (by have:=HGR.out;omega)))) (shE ⟨0,zeroVal,0,0,0,⟨#[]⟩,none,0,0⟩) (HR.out.outs o9 fun j (hj:j=gr)=>by have:=HGR.out;omega))
set_option maxHeartbeats 8000000 in
theorem ror_good {p z k:Nat} {T:List Tok} {nt:Rd Ex} (hk:k<60) (C:RdE 63 p z T (k+1) nt) (hK:Keep nt) (l:List Tok) (w:World) (h0:RO w p z T l k) (res:PR Ex) (hl:chain nt opsOr l=res):Calls Tryz.prog 33 #[.pointer (some ⟨p,0,none⟩)] w (RAns ExV ShE p z T k res w):=by
 have HCE:=zH hl
 clear hl
 have HC:=zH C
 have HK:=zH hK
 clear C hK
 obtain⟨A,hA⟩:∃ A,A=w.alloc (.cells #[.int .i64 0,.int .i64 0,.int .i64 0,.string ⟨#[]⟩,.int .i64 0,.int .i64 0,.int .i64 0,.string ⟨#[]⟩,.slice none 0 0] 44):=⟨_,rfl⟩
 have b0:Below w.heap.size w A:=by rw[hA];exact ext_alloc (ext_refl _) _
 have N0:BkA A w.heap.size zExpr:=by rw[hA];exact BkA.new w zExpr 44
 have C1:=zH (rdeep_yes p z k T l A (h0.below b0) hk)
 have HN0:=zH N0
 have HB0:=zH b0
 have HA:=zH hA
 have lp:=h0.lt
 have hpA:=Nat.lt_of_lt_of_le lp b0.size
 clear h0 b0 N0 hA hk
 go_enter Tryz.func33,Tryz.ntmps33
 go_upto_region 1 with fail
 rw[← HA.out]
 obtain⟨gr,hgr⟩:∃ g,g=w.heap.size:=⟨_,rfl⟩
 have HGR:=zH hgr
 rw[← hgr] at HN0 ⊢
 have hpr:p<gr:=by omega
 clear HA hgr
 go_wp2_with fail
 refine C1.out.mono ?_
 rintro e D ⟨rfl,hRD,hOD⟩
 obtain⟨-,-,lpD,c3,-⟩:=hRD.deep
 have HN:=zH (HN0.out.outs hOD (by omega))
 have HB:=zH ((Out.of (S:=fun j=>j=p∨w.heap.size≤j) HB0.out).trans (hOD.up (N:=w.heap.size)))
 obtain⟨res0,hr0⟩:∃ r,r=nt l:=⟨_,rfl⟩
 have C0:=zH (HC.out res0 D (.inl ⟨l,hRD,hr0.symm⟩))
 have hres:=zH (show res0.bind (chainW nt opsOr)=res by rw[hr0];exact HCE.out)
 clear hRD hOD HN0 HB0 C1 hr0 HCE
 go_wp2_with fail
 refine C0.out.mono ?_
 intro e X hA
 obtain⟨⟨fop,⟨fvk,fvn,fvs⟩,frel,fcol,fn,fs,fq,flen,fc⟩,rfl,hO,hAlt⟩:=hA.alt (chainW nt opsOr)
 obtain⟨Y,hY⟩:∃ V0,V0=X.alloc (.cells #[.int .i64 fop,.int .i64 fvk,.int .i64 fvn,.string fvs,.int .i64 frel,.int .i64 fcol,.int .i64 fn,.string fs,.slice fq flen fc] 44):=⟨_,rfl⟩
 have bY:Below X.heap.size X Y:=by rw[hY];exact ext_alloc (ext_refl _) _
 have kY:BkA Y X.heap.size (RawE.cells ⟨fop,⟨fvk,fvn,fvs⟩,frel,fcol,fn,fs,fq,flen,fc⟩):=by rw[hY];exact BkA.new X (RawE.cells ⟨fop,⟨fvk,fvn,fvs⟩,frel,fcol,fn,fs,fq,flen,fc⟩) 44
 have HY:=zH hY
 have RC:RCL w Y p X.heap.size gr ⟨fop,⟨fvk,fvn,fvs⟩,frel,fcol,fn,fs,fq,flen,fc⟩:=⟨kY,(HN.out.outs hO (by omega)).on bY,(HB.out.trans (hO.up (N:=w.heap.size))).trans (Out.of bY)⟩
 have hAY:=hAlt.below bY (Q:=fun j=>gr+1≤j∧j≠X.heap.size) (fun j h1 h2=>⟨by have h3:=HN.out.lt;omega,by omega⟩)
 have hgX:gr<X.heap.size:=Nat.lt_of_lt_of_le HN.out.lt hO.size
 have HRC:=zH RC
 have HAY:=zH hAY
 clear hA hO hAlt hY bY kY RC hAY C0 HN HB
 go_upto_block 0 with fail
 rw[← HY.out]
 obtain⟨ge,hge⟩:∃ g,g=X.heap.size:=⟨_,rfl⟩
 rw[← hge] at HRC HAY hgX ⊢
 clear HY hge
 rw[hres.out] at HAY
 clear hres
 go_wp2_with fail
 go_loopw [4] (fun _ wr=>∃ r:RawE,Hid (RCL w wr p ge gr r)∧Hid (Alt wr p z T (k+1) (fun j=>gr+1≤j∧j≠ge) r (chainW nt opsOr) res)) (fun _ wr=>rleft wr p)
 case atStart=>exact⟨_,HRC.out,HAY.out⟩
 case round =>
  obtain⟨⟨gop,⟨gvk,gvn,gvs⟩,grel,gcol,gn,gs,gq,glen,gc⟩,hR,hS⟩:=hrel
  obtain⟨W,hW⟩:∃ W,W=wr:=⟨_,rfl⟩
  rw[← hW] at hR hS ⊢
  clear hW HRC HAY
  have HR:=zH hR.out
  clear hR
  rcases Alt.chain HK.out (by decide) hS.out with ⟨e,t,l2,hR1,hc,hx,hq⟩ |⟨WN,AL⟩
  ·
   have HX:=zH hx
   have HQ:=zH (show (nt l2).bind (fun y r=>chainW nt opsOr (exTwo 16 e y) r)=res from hq)
   have hm2:=hR1.left
   have HM2:=zH hm2
   have WY:=zH (rword_yes p z (k+1) T t l2 kwOr W hR1 hc)
   clear hR1 hc hx hq hS hm2
   go_wp2_with fail
   refine WY.out.mono ?_
   rintro e1 X1 ⟨rfl,hR2,hO1⟩
   clear WY
   have CN:=zH (HC.out _ X1 (.inl ⟨l2,hR2,rfl⟩))
   have HO1:=zH hO1
   clear hR2 hO1
   go_wp2_with fail
   refine CN.out.mono ?_
   intro e2 Y hA2
   have HLF:=zH (RAns.left HK.out hA2)
   obtain⟨⟨hop,⟨hvk,hvn,hvs⟩,hrel,hcol,hn,hs,hq,hlen,hc⟩,rfl,hO2,hAlt2⟩:=hA2.alt (fun y r=>chainW nt opsOr (exTwo 16 e y) r)
   rw[HQ.out] at hAlt2
   obtain⟨Y2,hY2⟩:∃ V0,V0=Y.alloc (.cells #[.int .i64 hop,.int .i64 hvk,.int .i64 hvn,.string hvs,.int .i64 hrel,.int .i64 hcol,.int .i64 hn,.string hs,.slice hq hlen hc] 44):=⟨_,rfl⟩
   have bY2:Below Y.heap.size Y Y2:=by rw[hY2];exact ext_alloc (ext_refl _) _
   have kY2:BkA Y2 Y.heap.size (RawE.cells ⟨hop,⟨hvk,hvn,hvs⟩,hrel,hcol,hn,hs,hq,hlen,hc⟩):=by rw[hY2];exact BkA.new Y (RawE.cells ⟨hop,⟨hvk,hvn,hvs⟩,hrel,hcol,hn,hs,hq,hlen,hc⟩) 44
   have HY2:=zH hY2
   have HA2:=zH hAlt2
   have HO2:=zH hO2
   have HB2:=zH bY2
   have q:=((HR.out.val.outs HO1.out (by have:=HR.out.res.lt;omega)).outs hO2 (by omega)).on bY2
   obtain⟨c0,c1,c2,c3,c4,c5,c6,c7,c8⟩:=q.c9_ rfl
   obtain⟨d0,d1,d2,d3,d4,d5,d6,d7,d8⟩:=kY2.c9_ rfl
   have ql:=q.lt
   have kl:=kY2.lt
   have fz:=q.fz
   have HQ2:=zH q
   have HK2:=zH kY2
   clear hA2 hAlt2 hO2 hY2 bY2 q kY2 CN
   go_upto_region 8 with fail
   rw[← HY2.out]
   clear HY2
   obtain⟨g5,hg5⟩:∃ g,g=Y.heap.size:=⟨_,rfl⟩
   rw[← hg5] at HK2 kl d0 d1 d2 d3 d4 d5 d6 d7 d8 ⊢
   have HG5:=zH hg5
   clear hg5
   have W2:=zH (rtwo_any 16 ⟨gop,⟨gvk,gvn,gvs⟩,grel,gcol,gn,gs,gq,glen,gc⟩ ⟨hop,⟨hvk,hvn,hvs⟩,hrel,hcol,hn,hs,hq,hlen,hc⟩ Y2)
   go_wp2_with fail
   refine W2.out.mono ?_
   rintro e3 Z ⟨⟨nb,hn1,hn2,hcz,rfl⟩,hbZ⟩
   have qz:=HQ2.out.on hbZ
   obtain⟨u0,u1,u2,u3,u4,u5,u6,u7,u8⟩:=qz.c9_ rfl
   have zl:=qz.lt
   have zf:=qz.fz
   have o9:=out9 Z ge (.int .i64 16) (.int .i64 0) (.int .i64 0) (.string ⟨#[]⟩) (.int .i64 0) (.int .i64 0) (.int .i64 0) (.string ⟨#[]⟩) (.slice (some ⟨nb,0,none⟩) 2 2)
   have NC:=qz.set9 (.int .i64 16) (.int .i64 0) (.int .i64 0) (.string ⟨#[]⟩) (.int .i64 0) (.int .i64 0) (.int .i64 0) (.string ⟨#[]⟩) (.slice (some ⟨nb,0,none⟩) 2 2)
   have ST:=zH (RCL.step (X1:=X1) (Y:=Y) (op:=16) (f:=chainW nt opsOr) (res:=res) (ry:=⟨hop,⟨hvk,hvn,hvs⟩,hrel,hcol,hn,hs,hq,hlen,hc⟩) HR.out (by rw[HGR.out];exact Nat.le_refl _) hgX hpr HX.out HO1.out HO2.out HA2.out (HB2.out.trans (hbZ.mono HB2.out.size)) (Nat.le_trans HB2.out.size hn1) hn2 hcz o9 NC)
   have HLT:=zH (show rleft (((((((((Z.setCell ⟨ge,0,none⟩ (.int .i64 16)).setCell ⟨ge,1,none⟩ (.int .i64 0)).setCell ⟨ge,2,none⟩ (.int .i64 0)).setCell ⟨ge,3,none⟩ (.string ⟨#[]⟩)).setCell ⟨ge,4,none⟩ (.int .i64 0)).setCell ⟨ge,5,none⟩ (.int .i64 0)).setCell ⟨ge,6,none⟩ (.int .i64 0)).setCell ⟨ge,7,none⟩ (.string ⟨#[]⟩)).setCell ⟨ge,8,none⟩ (.slice (some ⟨nb,0,none⟩) 2 2)) p<rleft W p by
    rw[HM2.out]
    have hpY:p<Y.heap.size:=Nat.lt_of_lt_of_le (Nat.lt_of_lt_of_le (Nat.lt_trans hpr HR.out.res.lt) HO1.out.size) HO2.out.size
    have e1:=rleft_on ((o9.block p (Nat.lt_of_lt_of_le (Nat.lt_of_lt_of_le hpY HB2.out.size) hbZ.size) (by omega)).trans ((hbZ.block p (Nat.lt_of_lt_of_le hpY HB2.out.size)).trans (HB2.out.block p hpY)))
    rw[e1]
    have:=HLF.out
    simp only[List.length_cons]
    omega)
   clear hn1 hn2 hcz hbZ qz o9 NC c0 c1 c2 c3 c4 c5 c6 c7 c8 d0 d1 d2 d3 d4 d5 d6 d7 d8 kl ql fz W2
   go_wp2_with fail
   go_roundw
   case rel=>exact⟨_,ST.out.1,ST.out.2⟩
   case measure=>exact HLT.out
  ·
   have HW:=zH WN
   have HAL:=zH AL
   clear WN AL hS
   go_wp2_with fail
   refine HW.out.mono ?_
   rintro e1 V ⟨rfl,hb⟩
   have KV:=zH (HR.out.val.on hb)
   have RV:=zH (HR.out.res.on hb)
   have AV:=zH (HAL.out.below hb (Q:=fun j=>gr+1≤j∧j≠ge) (fun _ h _=>h))
   have OV:=zH (HR.out.out.trans (Out.of hb))
   clear hb
   obtain⟨dd,p5,fzp,lpp,av2⟩:=Alt.dec AV.out
   obtain⟨V2,hV2⟩:∃ V0,V0=V.setCell ⟨p,5,none⟩ (.int .i64 (wrap64 (dd - 1))):=⟨_,rfl⟩
   have o5:Out (fun j=>j=p) V V2:=by rw[hV2];exact out_p _ _ _ _
   have AV2:=zH (show Alt V2 p z T k _ ⟨gop,⟨gvk,gvn,gvs⟩,grel,gcol,gn,gs,gq,glen,gc⟩ (fun e l=>.ok e l) res by rw[hV2];exact av2)
   have q:=KV.out.outs o5 (by omega)
   have q2:=RV.out.outs o5 (by omega)
   have OV2:=zH (OV.out.trans (o5.up (N:=w.heap.size)))
   have HV2:=zH hV2
   clear av2 hV2 o5
   go_upto_region 10 with fail
   rw[← HV2.out]
   clear HV2 p5 fzp lpp
   obtain⟨c0,c1,c2,c3,c4,c5,c6,c7,c8⟩:=q.c9_ rfl
   obtain⟨d0,d1,d2,d3,d4,d5,d6,d7,d8⟩:=q2.c9_ rfl
   have ql:=q.lt
   have kl:=q2.lt
   have fz:=q2.fz
   clear q q2
   go_wp2_with fail
   have o9:=out9 V2 gr (.int .i64 gop) (.int .i64 gvk) (.int .i64 gvn) (.string gvs) (.int .i64 grel) (.int .i64 gcol) (.int .i64 gn) (.string gs) (.slice gq glen gc)
   have hM:=(AV2.out).outs o9 (fun j (hj:j=gr)=>⟨by omega,fun h=>by have:=h.1;omega⟩) (Q:=fun j=>gr≤j) (fun j h _=>by have:=h.1;omega)
   refine bodyPost_ret (v:=.agg #[.int .i64 gop,.int .i64 gvk,.int .i64 gvn,.string gvs,.int .i64 grel,.int .i64 gcol,.int .i64 gn,.string gs,.slice gq glen gc]) (by simp[results,Tryz.results33,go_sem,zeroVal,d0,d1,d2,d3,d4,d5,d6,d7,d8]) rfl (hM.ans (Out.down ((OV2.out).trans (o9.mono fun j _ (hj:j=gr)=>.inr (by have:=HGR.out;omega)))) (fun j hj=>by have:=HGR.out;omega))
set_option maxHeartbeats 8000000 in
theorem rsum_any {p z k:Nat} {T:List Tok} {nt:Rd Ex} (C:RdE 122 p z T k nt) (hK:Keep nt):RdE 107 p z T k (chain nt opsSum):=fun res w h=>by
 obtain⟨res0,h0,rfl⟩:=St0.bind (one:=nt) (f:=chainW nt opsSum) h
 have lp:=h0.lt
 obtain⟨A,hA⟩:∃ A,A=w.alloc (.cells #[.int .i64 0,.int .i64 0,.int .i64 0,.string ⟨#[]⟩,.int .i64 0,.int .i64 0,.int .i64 0,.string ⟨#[]⟩,.slice none 0 0] 44):=⟨_,rfl⟩
 have b0:Below w.heap.size w A:=by rw[hA];exact ext_alloc (ext_refl _) _
 have N0:BkA A w.heap.size zExpr:=by rw[hA];exact BkA.new w zExpr 44
 have C0:=zH (C res0 A (h0.below b0))
 have HN:=zH N0
 have HB:=zH (Out.of (S:=fun j=>j=p∨w.heap.size≤j) b0)
 have HA:=zH hA
 have hpA:=Nat.lt_of_lt_of_le lp b0.size
 have HC:=zH C
 have HK:=zH hK
 clear h h0 b0 N0 hA C hK
 go_enter Tryz.func107,Tryz.ntmps107
 go_upto_region 1 with fail
 rw[← HA.out]
 obtain⟨gr,hgr⟩:∃ g,g=w.heap.size:=⟨_,rfl⟩
 have HGR:=zH hgr
 rw[← hgr] at HN ⊢
 have hpr:p<gr:=by omega
 clear HA hgr
 go_wp2_with fail
 refine C0.out.mono ?_
 intro e X hA
 obtain⟨⟨fop,⟨fvk,fvn,fvs⟩,frel,fcol,fn,fs,fq,flen,fc⟩,rfl,hO,hAlt⟩:=hA.alt (chainW nt opsSum)
 obtain⟨Y,hY⟩:∃ V0,V0=X.alloc (.cells #[.int .i64 fop,.int .i64 fvk,.int .i64 fvn,.string fvs,.int .i64 frel,.int .i64 fcol,.int .i64 fn,.string fs,.slice fq flen fc] 44):=⟨_,rfl⟩
 have bY:Below X.heap.size X Y:=by rw[hY];exact ext_alloc (ext_refl _) _
 have kY:BkA Y X.heap.size (RawE.cells ⟨fop,⟨fvk,fvn,fvs⟩,frel,fcol,fn,fs,fq,flen,fc⟩):=by rw[hY];exact BkA.new X (RawE.cells ⟨fop,⟨fvk,fvn,fvs⟩,frel,fcol,fn,fs,fq,flen,fc⟩) 44
 have HY:=zH hY
 have RC:RCL w Y p X.heap.size gr ⟨fop,⟨fvk,fvn,fvs⟩,frel,fcol,fn,fs,fq,flen,fc⟩:=⟨kY,(HN.out.outs hO (by omega)).on bY,(HB.out.trans (hO.up (N:=w.heap.size))).trans (Out.of bY)⟩
 have hAY:=hAlt.below bY (Q:=fun j=>gr+1≤j∧j≠X.heap.size) (fun j h1 h2=>⟨by have h3:=HN.out.lt;omega,by omega⟩)
 have hgX:gr<X.heap.size:=Nat.lt_of_lt_of_le HN.out.lt hO.size
 have HRC:=zH RC
 have HAY:=zH hAY
 clear hA hO hAlt hY bY kY RC hAY C0 HN HB
 go_upto_block 0 with fail
 rw[← HY.out]
 obtain⟨ge,hge⟩:∃ g,g=X.heap.size:=⟨_,rfl⟩
 rw[← hge] at HRC HAY hgX ⊢
 clear HY hge
 obtain⟨res,hres⟩:∃ r,r=res0.bind (chainW nt opsSum):=⟨_,rfl⟩
 rw[← hres] at HAY ⊢
 clear hres
 go_wp2_with fail
 go_loopw [4] (fun _ wr=>∃ r:RawE,Hid (RCL w wr p ge gr r)∧Hid (Alt wr p z T k (fun j=>gr+1≤j∧j≠ge) r (chainW nt opsSum) res)) (fun _ wr=>rleft wr p)
 case atStart=>exact⟨_,HRC.out,HAY.out⟩
 case round =>
  obtain⟨⟨gop,⟨gvk,gvn,gvs⟩,grel,gcol,gn,gs,gq,glen,gc⟩,hR,hS⟩:=hrel
  obtain⟨W,hW⟩:∃ W,W=wr:=⟨_,rfl⟩
  rw[← hW] at hR hS ⊢
  clear hW HRC HAY
  have HR:=zH hR.out
  clear hR
  rcases Alt.chain2 HK.out (by decide) (by decide) hS.out with ⟨e,t,l2,hR1,hc,hx,hq⟩ |⟨e,t,l2,hR1,hc1,hc,hx,hq⟩ |⟨WN1,WN2,AL⟩
  ·
   have HX:=zH hx
   have HQ:=zH (show (nt l2).bind (fun y r=>chainW nt opsSum (exTwo 4 e y) r)=res from hq)
   have hm2:=hR1.left
   have HM2:=zH hm2
   have WY:=zH (rsign_yes p z k T t l2 [43] W hR1 hc)
   clear hR1 hc hx hq hS hm2
   go_wp2_with fail
   refine WY.out.mono ?_
   rintro e1 X1 ⟨rfl,hR2,hO1⟩
   clear WY
   have CN:=zH (HC.out _ X1 (.inl ⟨l2,hR2,rfl⟩))
   have HO1:=zH hO1
   clear hR2 hO1
   go_wp2_with fail
   refine CN.out.mono ?_
   intro e2 Y hA2
   have HLF:=zH (RAns.left HK.out hA2)
   obtain⟨⟨hop,⟨hvk,hvn,hvs⟩,hrel,hcol,hn,hs,hq,hlen,hc⟩,rfl,hO2,hAlt2⟩:=hA2.alt (fun y r=>chainW nt opsSum (exTwo 4 e y) r)
   rw[HQ.out] at hAlt2
   obtain⟨Y2,hY2⟩:∃ V0,V0=Y.alloc (.cells #[.int .i64 hop,.int .i64 hvk,.int .i64 hvn,.string hvs,.int .i64 hrel,.int .i64 hcol,.int .i64 hn,.string hs,.slice hq hlen hc] 44):=⟨_,rfl⟩
   have bY2:Below Y.heap.size Y Y2:=by rw[hY2];exact ext_alloc (ext_refl _) _
   have kY2:BkA Y2 Y.heap.size (RawE.cells ⟨hop,⟨hvk,hvn,hvs⟩,hrel,hcol,hn,hs,hq,hlen,hc⟩):=by rw[hY2];exact BkA.new Y (RawE.cells ⟨hop,⟨hvk,hvn,hvs⟩,hrel,hcol,hn,hs,hq,hlen,hc⟩) 44
   have HY2:=zH hY2
   have HA2:=zH hAlt2
   have HO2:=zH hO2
   have HB2:=zH bY2
   have q:=((HR.out.val.outs HO1.out (by have:=HR.out.res.lt;omega)).outs hO2 (by omega)).on bY2
   obtain⟨c0,c1,c2,c3,c4,c5,c6,c7,c8⟩:=q.c9_ rfl
   obtain⟨d0,d1,d2,d3,d4,d5,d6,d7,d8⟩:=kY2.c9_ rfl
   have ql:=q.lt
   have kl:=kY2.lt
   have fz:=q.fz
   have HQ2:=zH q
   have HK2:=zH kY2
   clear hA2 hAlt2 hO2 hY2 bY2 q kY2 CN
   go_upto_region 8 with fail
   rw[← HY2.out]
   clear HY2
   obtain⟨g5,hg5⟩:∃ g,g=Y.heap.size:=⟨_,rfl⟩
   rw[← hg5] at HK2 kl d0 d1 d2 d3 d4 d5 d6 d7 d8 ⊢
   have HG5:=zH hg5
   clear hg5
   have W2:=zH (rtwo_any 4 ⟨gop,⟨gvk,gvn,gvs⟩,grel,gcol,gn,gs,gq,glen,gc⟩ ⟨hop,⟨hvk,hvn,hvs⟩,hrel,hcol,hn,hs,hq,hlen,hc⟩ Y2)
   go_wp2_with fail
   refine W2.out.mono ?_
   rintro e3 Z ⟨⟨nb,hn1,hn2,hcz,rfl⟩,hbZ⟩
   have qz:=HQ2.out.on hbZ
   obtain⟨u0,u1,u2,u3,u4,u5,u6,u7,u8⟩:=qz.c9_ rfl
   have zl:=qz.lt
   have zf:=qz.fz
   have o9:=out9 Z ge (.int .i64 4) (.int .i64 0) (.int .i64 0) (.string ⟨#[]⟩) (.int .i64 0) (.int .i64 0) (.int .i64 0) (.string ⟨#[]⟩) (.slice (some ⟨nb,0,none⟩) 2 2)
   have NC:=qz.set9 (.int .i64 4) (.int .i64 0) (.int .i64 0) (.string ⟨#[]⟩) (.int .i64 0) (.int .i64 0) (.int .i64 0) (.string ⟨#[]⟩) (.slice (some ⟨nb,0,none⟩) 2 2)
   have ST:=zH (RCL.step (X1:=X1) (Y:=Y) (op:=4) (f:=chainW nt opsSum) (res:=res) (ry:=⟨hop,⟨hvk,hvn,hvs⟩,hrel,hcol,hn,hs,hq,hlen,hc⟩) HR.out (by rw[HGR.out];exact Nat.le_refl _) hgX hpr HX.out HO1.out HO2.out HA2.out (HB2.out.trans (hbZ.mono HB2.out.size)) (Nat.le_trans HB2.out.size hn1) hn2 hcz o9 NC)
   have HLT:=zH (show rleft (((((((((Z.setCell ⟨ge,0,none⟩ (.int .i64 4)).setCell ⟨ge,1,none⟩ (.int .i64 0)).setCell ⟨ge,2,none⟩ (.int .i64 0)).setCell ⟨ge,3,none⟩ (.string ⟨#[]⟩)).setCell ⟨ge,4,none⟩ (.int .i64 0)).setCell ⟨ge,5,none⟩ (.int .i64 0)).setCell ⟨ge,6,none⟩ (.int .i64 0)).setCell ⟨ge,7,none⟩ (.string ⟨#[]⟩)).setCell ⟨ge,8,none⟩ (.slice (some ⟨nb,0,none⟩) 2 2)) p<rleft W p by
    rw[HM2.out]
    have hpY:p<Y.heap.size:=Nat.lt_of_lt_of_le (Nat.lt_of_lt_of_le (Nat.lt_trans hpr HR.out.res.lt) HO1.out.size) HO2.out.size
    have e1:=rleft_on ((o9.block p (Nat.lt_of_lt_of_le (Nat.lt_of_lt_of_le hpY HB2.out.size) hbZ.size) (by omega)).trans ((hbZ.block p (Nat.lt_of_lt_of_le hpY HB2.out.size)).trans (HB2.out.block p hpY)))
    rw[e1]
    have:=HLF.out
    simp only[List.length_cons]
    omega)
   clear hn1 hn2 hcz hbZ qz o9 NC c0 c1 c2 c3 c4 c5 c6 c7 c8 d0 d1 d2 d3 d4 d5 d6 d7 d8 kl ql fz W2
   go_wp2_with fail
   go_roundw
   case rel=>exact⟨_,ST.out.1,ST.out.2⟩
   case measure=>exact HLT.out
  ·
   have HX:=zH hx
   have HQ:=zH (show (nt l2).bind (fun y r=>chainW nt opsSum (exTwo 5 e y) r)=res from hq)
   have hm2:=hR1.left
   have HM2:=zH hm2
   have WN:=zH (rsign_no p z k T (t :: l2) [43] W hR1 hc1)
   have WH:=zH hR1
   have WC:=zH hc
   clear hR1 hc hc1 hx hq hS hm2
   go_wp2_with fail
   refine WN.out.mono ?_
   rintro e1 V1 ⟨rfl,hb1⟩
   have WY:=zH (rsign_yes p z k T t l2 [45] V1 (WH.out.below hb1) WC.out)
   have OB1:=zH (Out.of (S:=fun j=>j=p) hb1)
   clear hb1
   go_wp2_with fail
   refine WY.out.mono ?_
   rintro e1 X1 ⟨rfl,hR2,hOX⟩
   have hO1:=OB1.out.trans hOX
   clear WY hOX
   have CN:=zH (HC.out _ X1 (.inl ⟨l2,hR2,rfl⟩))
   have HO1:=zH hO1
   clear hR2 hO1
   go_wp2_with fail
   refine CN.out.mono ?_
   intro e2 Y hA2
   have HLF:=zH (RAns.left HK.out hA2)
   obtain⟨⟨hop,⟨hvk,hvn,hvs⟩,hrel,hcol,hn,hs,hq,hlen,hc⟩,rfl,hO2,hAlt2⟩:=hA2.alt (fun y r=>chainW nt opsSum (exTwo 5 e y) r)
   rw[HQ.out] at hAlt2
   obtain⟨Y2,hY2⟩:∃ V0,V0=Y.alloc (.cells #[.int .i64 hop,.int .i64 hvk,.int .i64 hvn,.string hvs,.int .i64 hrel,.int .i64 hcol,.int .i64 hn,.string hs,.slice hq hlen hc] 44):=⟨_,rfl⟩
   have bY2:Below Y.heap.size Y Y2:=by rw[hY2];exact ext_alloc (ext_refl _) _
   have kY2:BkA Y2 Y.heap.size (RawE.cells ⟨hop,⟨hvk,hvn,hvs⟩,hrel,hcol,hn,hs,hq,hlen,hc⟩):=by rw[hY2];exact BkA.new Y (RawE.cells ⟨hop,⟨hvk,hvn,hvs⟩,hrel,hcol,hn,hs,hq,hlen,hc⟩) 44
   have HY2:=zH hY2
   have HA2:=zH hAlt2
   have HO2:=zH hO2
   have HB2:=zH bY2
   have q:=((HR.out.val.outs HO1.out (by have:=HR.out.res.lt;omega)).outs hO2 (by omega)).on bY2
   obtain⟨c0,c1,c2,c3,c4,c5,c6,c7,c8⟩:=q.c9_ rfl
   obtain⟨d0,d1,d2,d3,d4,d5,d6,d7,d8⟩:=kY2.c9_ rfl
   have ql:=q.lt
   have kl:=kY2.lt
   have fz:=q.fz
   have HQ2:=zH q
   have HK2:=zH kY2
   clear hA2 hAlt2 hO2 hY2 bY2 q kY2 CN
   go_upto_region 9 with fail
   rw[← HY2.out]
   clear HY2
   obtain⟨g5,hg5⟩:∃ g,g=Y.heap.size:=⟨_,rfl⟩
   rw[← hg5] at HK2 kl d0 d1 d2 d3 d4 d5 d6 d7 d8 ⊢
   have HG5:=zH hg5
   clear hg5
   have W2:=zH (rtwo_any 5 ⟨gop,⟨gvk,gvn,gvs⟩,grel,gcol,gn,gs,gq,glen,gc⟩ ⟨hop,⟨hvk,hvn,hvs⟩,hrel,hcol,hn,hs,hq,hlen,hc⟩ Y2)
   go_wp2_with fail
   refine W2.out.mono ?_
   rintro e3 Z ⟨⟨nb,hn1,hn2,hcz,rfl⟩,hbZ⟩
   have qz:=HQ2.out.on hbZ
   obtain⟨u0,u1,u2,u3,u4,u5,u6,u7,u8⟩:=qz.c9_ rfl
   have zl:=qz.lt
   have zf:=qz.fz
   have o9:=out9 Z ge (.int .i64 5) (.int .i64 0) (.int .i64 0) (.string ⟨#[]⟩) (.int .i64 0) (.int .i64 0) (.int .i64 0) (.string ⟨#[]⟩) (.slice (some ⟨nb,0,none⟩) 2 2)
   have NC:=qz.set9 (.int .i64 5) (.int .i64 0) (.int .i64 0) (.string ⟨#[]⟩) (.int .i64 0) (.int .i64 0) (.int .i64 0) (.string ⟨#[]⟩) (.slice (some ⟨nb,0,none⟩) 2 2)
   have ST:=zH (RCL.step (X1:=X1) (Y:=Y) (op:=5) (f:=chainW nt opsSum) (res:=res) (ry:=⟨hop,⟨hvk,hvn,hvs⟩,hrel,hcol,hn,hs,hq,hlen,hc⟩) HR.out (by rw[HGR.out];exact Nat.le_refl _) hgX hpr HX.out HO1.out HO2.out HA2.out (HB2.out.trans (hbZ.mono HB2.out.size)) (Nat.le_trans HB2.out.size hn1) hn2 hcz o9 NC)
   have HLT:=zH (show rleft (((((((((Z.setCell ⟨ge,0,none⟩ (.int .i64 5)).setCell ⟨ge,1,none⟩ (.int .i64 0)).setCell ⟨ge,2,none⟩ (.int .i64 0)).setCell ⟨ge,3,none⟩ (.string ⟨#[]⟩)).setCell ⟨ge,4,none⟩ (.int .i64 0)).setCell ⟨ge,5,none⟩ (.int .i64 0)).setCell ⟨ge,6,none⟩ (.int .i64 0)).setCell ⟨ge,7,none⟩ (.string ⟨#[]⟩)).setCell ⟨ge,8,none⟩ (.slice (some ⟨nb,0,none⟩) 2 2)) p<rleft W p by
    rw[HM2.out]
    have hpY:p<Y.heap.size:=Nat.lt_of_lt_of_le (Nat.lt_of_lt_of_le (Nat.lt_trans hpr HR.out.res.lt) HO1.out.size) HO2.out.size
    have e1:=rleft_on ((o9.block p (Nat.lt_of_lt_of_le (Nat.lt_of_lt_of_le hpY HB2.out.size) hbZ.size) (by omega)).trans ((hbZ.block p (Nat.lt_of_lt_of_le hpY HB2.out.size)).trans (HB2.out.block p hpY)))
    rw[e1]
    have:=HLF.out
    simp only[List.length_cons]
    omega)
   clear hn1 hn2 hcz hbZ qz o9 NC c0 c1 c2 c3 c4 c5 c6 c7 c8 d0 d1 d2 d3 d4 d5 d6 d7 d8 kl ql fz W2
   go_wp2_with fail
   go_roundw
   case rel=>exact⟨_,ST.out.1,ST.out.2⟩
   case measure=>exact HLT.out
  ·
   have HW:=zH WN1
   have HW2:=zH WN2
   have HAL:=zH AL
   clear WN1 WN2 AL hS
   go_wp2_with fail
   refine HW.out.mono ?_
   rintro e1 V1 ⟨rfl,hb1⟩
   have W3:=zH (HW2.out V1 hb1)
   have HB1:=zH hb1
   clear hb1
   go_wp2_with fail
   refine W3.out.mono ?_
   rintro e1 V ⟨rfl,hb2⟩
   have hb:=HB1.out.trans (hb2.mono HB1.out.size)
   have KV:=zH (HR.out.val.on hb)
   have RV:=zH (HR.out.res.on hb)
   have AV:=zH (HAL.out.below hb (Q:=fun j=>gr+1≤j∧j≠ge) (fun _ h _=>h))
   have OV:=zH (HR.out.out.trans (Out.of hb))
   clear hb hb2
   have q:=KV.out
   have q2:=RV.out
   obtain⟨c0,c1,c2,c3,c4,c5,c6,c7,c8⟩:=q.c9_ rfl
   obtain⟨d0,d1,d2,d3,d4,d5,d6,d7,d8⟩:=q2.c9_ rfl
   have ql:=q.lt
   have kl:=q2.lt
   have fz:=q2.fz
   clear q q2
   go_wp2_with fail
   have o9:=out9 V gr (.int .i64 gop) (.int .i64 gvk) (.int .i64 gvn) (.string gvs) (.int .i64 grel) (.int .i64 gcol) (.int .i64 gn) (.string gs) (.slice gq glen gc)
   have hM:=(AV.out).outs o9 (fun j (hj:j=gr)=>⟨by omega,fun h=>by have:=h.1;omega⟩) (Q:=fun j=>gr≤j) (fun j h _=>by have:=h.1;omega)
   refine bodyPost_ret (v:=.agg #[.int .i64 gop,.int .i64 gvk,.int .i64 gvn,.string gvs,.int .i64 grel,.int .i64 gcol,.int .i64 gn,.string gs,.slice gq glen gc]) (by simp[results,Tryz.results107,go_sem,zeroVal,d0,d1,d2,d3,d4,d5,d6,d7,d8]) rfl (hM.ans (Out.down ((OV.out).trans (o9.mono fun j _ (hj:j=gr)=>.inr (by have:=HGR.out;omega)))) (fun j hj=>by have:=HGR.out;omega))
set_option maxHeartbeats 8000000 in
theorem rprod_any {p z k:Nat} {T:List Tok} {nt:Rd Ex} (C:RdE 132 p z T k nt) (hK:Keep nt):RdE 122 p z T k (chain nt opsProd):=fun res w h=>by
 obtain⟨res0,h0,rfl⟩:=St0.bind (one:=nt) (f:=chainW nt opsProd) h
 have lp:=h0.lt
 obtain⟨A,hA⟩:∃ A,A=w.alloc (.cells #[.int .i64 0,.int .i64 0,.int .i64 0,.string ⟨#[]⟩,.int .i64 0,.int .i64 0,.int .i64 0,.string ⟨#[]⟩,.slice none 0 0] 44):=⟨_,rfl⟩
 have b0:Below w.heap.size w A:=by rw[hA];exact ext_alloc (ext_refl _) _
 have N0:BkA A w.heap.size zExpr:=by rw[hA];exact BkA.new w zExpr 44
 have C0:=zH (C res0 A (h0.below b0))
 have HN:=zH N0
 have HB:=zH (Out.of (S:=fun j=>j=p∨w.heap.size≤j) b0)
 have HA:=zH hA
 have hpA:=Nat.lt_of_lt_of_le lp b0.size
 have HC:=zH C
 have HK:=zH hK
 clear h h0 b0 N0 hA C hK
 go_enter Tryz.func122,Tryz.ntmps122
 go_upto_region 1 with fail
 rw[← HA.out]
 obtain⟨gr,hgr⟩:∃ g,g=w.heap.size:=⟨_,rfl⟩
 have HGR:=zH hgr
 rw[← hgr] at HN ⊢
 have hpr:p<gr:=by omega
 clear HA hgr
 go_wp2_with fail
 refine C0.out.mono ?_
 intro e X hA
 obtain⟨⟨fop,⟨fvk,fvn,fvs⟩,frel,fcol,fn,fs,fq,flen,fc⟩,rfl,hO,hAlt⟩:=hA.alt (chainW nt opsProd)
 obtain⟨Y,hY⟩:∃ V0,V0=X.alloc (.cells #[.int .i64 fop,.int .i64 fvk,.int .i64 fvn,.string fvs,.int .i64 frel,.int .i64 fcol,.int .i64 fn,.string fs,.slice fq flen fc] 44):=⟨_,rfl⟩
 have bY:Below X.heap.size X Y:=by rw[hY];exact ext_alloc (ext_refl _) _
 have kY:BkA Y X.heap.size (RawE.cells ⟨fop,⟨fvk,fvn,fvs⟩,frel,fcol,fn,fs,fq,flen,fc⟩):=by rw[hY];exact BkA.new X (RawE.cells ⟨fop,⟨fvk,fvn,fvs⟩,frel,fcol,fn,fs,fq,flen,fc⟩) 44
 have HY:=zH hY
 have RC:RCL w Y p X.heap.size gr ⟨fop,⟨fvk,fvn,fvs⟩,frel,fcol,fn,fs,fq,flen,fc⟩:=⟨kY,(HN.out.outs hO (by omega)).on bY,(HB.out.trans (hO.up (N:=w.heap.size))).trans (Out.of bY)⟩
 have hAY:=hAlt.below bY (Q:=fun j=>gr+1≤j∧j≠X.heap.size) (fun j h1 h2=>⟨by have h3:=HN.out.lt;omega,by omega⟩)
 have hgX:gr<X.heap.size:=Nat.lt_of_lt_of_le HN.out.lt hO.size
 have HRC:=zH RC
 have HAY:=zH hAY
 clear hA hO hAlt hY bY kY RC hAY C0 HN HB
 go_upto_block 0 with fail
 rw[← HY.out]
 obtain⟨ge,hge⟩:∃ g,g=X.heap.size:=⟨_,rfl⟩
 rw[← hge] at HRC HAY hgX ⊢
 clear HY hge
 obtain⟨res,hres⟩:∃ r,r=res0.bind (chainW nt opsProd):=⟨_,rfl⟩
 rw[← hres] at HAY ⊢
 clear hres
 go_wp2_with fail
 go_loopw [4] (fun _ wr=>∃ r:RawE,Hid (RCL w wr p ge gr r)∧Hid (Alt wr p z T k (fun j=>gr+1≤j∧j≠ge) r (chainW nt opsProd) res)) (fun _ wr=>rleft wr p)
 case atStart=>exact⟨_,HRC.out,HAY.out⟩
 case round =>
  obtain⟨⟨gop,⟨gvk,gvn,gvs⟩,grel,gcol,gn,gs,gq,glen,gc⟩,hR,hS⟩:=hrel
  obtain⟨W,hW⟩:∃ W,W=wr:=⟨_,rfl⟩
  rw[← hW] at hR hS ⊢
  clear hW HRC HAY
  have HR:=zH hR.out
  clear hR
  rcases Alt.chain2 HK.out (by decide) (by decide) hS.out with ⟨e,t,l2,hR1,hc,hx,hq⟩ |⟨e,t,l2,hR1,hc1,hc,hx,hq⟩ |⟨WN1,WN2,AL⟩
  ·
   have HX:=zH hx
   have HQ:=zH (show (nt l2).bind (fun y r=>chainW nt opsProd (exTwo 6 e y) r)=res from hq)
   have hm2:=hR1.left
   have HM2:=zH hm2
   have WY:=zH (rsign_yes p z k T t l2 [42] W hR1 hc)
   clear hR1 hc hx hq hS hm2
   go_wp2_with fail
   refine WY.out.mono ?_
   rintro e1 X1 ⟨rfl,hR2,hO1⟩
   clear WY
   have CN:=zH (HC.out _ X1 (.inl ⟨l2,hR2,rfl⟩))
   have HO1:=zH hO1
   clear hR2 hO1
   go_wp2_with fail
   refine CN.out.mono ?_
   intro e2 Y hA2
   have HLF:=zH (RAns.left HK.out hA2)
   obtain⟨⟨hop,⟨hvk,hvn,hvs⟩,hrel,hcol,hn,hs,hq,hlen,hc⟩,rfl,hO2,hAlt2⟩:=hA2.alt (fun y r=>chainW nt opsProd (exTwo 6 e y) r)
   rw[HQ.out] at hAlt2
   obtain⟨Y2,hY2⟩:∃ V0,V0=Y.alloc (.cells #[.int .i64 hop,.int .i64 hvk,.int .i64 hvn,.string hvs,.int .i64 hrel,.int .i64 hcol,.int .i64 hn,.string hs,.slice hq hlen hc] 44):=⟨_,rfl⟩
   have bY2:Below Y.heap.size Y Y2:=by rw[hY2];exact ext_alloc (ext_refl _) _
   have kY2:BkA Y2 Y.heap.size (RawE.cells ⟨hop,⟨hvk,hvn,hvs⟩,hrel,hcol,hn,hs,hq,hlen,hc⟩):=by rw[hY2];exact BkA.new Y (RawE.cells ⟨hop,⟨hvk,hvn,hvs⟩,hrel,hcol,hn,hs,hq,hlen,hc⟩) 44
   have HY2:=zH hY2
   have HA2:=zH hAlt2
   have HO2:=zH hO2
   have HB2:=zH bY2
   have q:=((HR.out.val.outs HO1.out (by have:=HR.out.res.lt;omega)).outs hO2 (by omega)).on bY2
   obtain⟨c0,c1,c2,c3,c4,c5,c6,c7,c8⟩:=q.c9_ rfl
   obtain⟨d0,d1,d2,d3,d4,d5,d6,d7,d8⟩:=kY2.c9_ rfl
   have ql:=q.lt
   have kl:=kY2.lt
   have fz:=q.fz
   have HQ2:=zH q
   have HK2:=zH kY2
   clear hA2 hAlt2 hO2 hY2 bY2 q kY2 CN
   go_upto_region 8 with fail
   rw[← HY2.out]
   clear HY2
   obtain⟨g5,hg5⟩:∃ g,g=Y.heap.size:=⟨_,rfl⟩
   rw[← hg5] at HK2 kl d0 d1 d2 d3 d4 d5 d6 d7 d8 ⊢
   have HG5:=zH hg5
   clear hg5
   have W2:=zH (rtwo_any 6 ⟨gop,⟨gvk,gvn,gvs⟩,grel,gcol,gn,gs,gq,glen,gc⟩ ⟨hop,⟨hvk,hvn,hvs⟩,hrel,hcol,hn,hs,hq,hlen,hc⟩ Y2)
   go_wp2_with fail
   refine W2.out.mono ?_
   rintro e3 Z ⟨⟨nb,hn1,hn2,hcz,rfl⟩,hbZ⟩
   have qz:=HQ2.out.on hbZ
   obtain⟨u0,u1,u2,u3,u4,u5,u6,u7,u8⟩:=qz.c9_ rfl
   have zl:=qz.lt
   have zf:=qz.fz
   have o9:=out9 Z ge (.int .i64 6) (.int .i64 0) (.int .i64 0) (.string ⟨#[]⟩) (.int .i64 0) (.int .i64 0) (.int .i64 0) (.string ⟨#[]⟩) (.slice (some ⟨nb,0,none⟩) 2 2)
   have NC:=qz.set9 (.int .i64 6) (.int .i64 0) (.int .i64 0) (.string ⟨#[]⟩) (.int .i64 0) (.int .i64 0) (.int .i64 0) (.string ⟨#[]⟩) (.slice (some ⟨nb,0,none⟩) 2 2)
   have ST:=zH (RCL.step (X1:=X1) (Y:=Y) (op:=6) (f:=chainW nt opsProd) (res:=res) (ry:=⟨hop,⟨hvk,hvn,hvs⟩,hrel,hcol,hn,hs,hq,hlen,hc⟩) HR.out (by rw[HGR.out];exact Nat.le_refl _) hgX hpr HX.out HO1.out HO2.out HA2.out (HB2.out.trans (hbZ.mono HB2.out.size)) (Nat.le_trans HB2.out.size hn1) hn2 hcz o9 NC)
   have HLT:=zH (show rleft (((((((((Z.setCell ⟨ge,0,none⟩ (.int .i64 6)).setCell ⟨ge,1,none⟩ (.int .i64 0)).setCell ⟨ge,2,none⟩ (.int .i64 0)).setCell ⟨ge,3,none⟩ (.string ⟨#[]⟩)).setCell ⟨ge,4,none⟩ (.int .i64 0)).setCell ⟨ge,5,none⟩ (.int .i64 0)).setCell ⟨ge,6,none⟩ (.int .i64 0)).setCell ⟨ge,7,none⟩ (.string ⟨#[]⟩)).setCell ⟨ge,8,none⟩ (.slice (some ⟨nb,0,none⟩) 2 2)) p<rleft W p by
    rw[HM2.out]
    have hpY:p<Y.heap.size:=Nat.lt_of_lt_of_le (Nat.lt_of_lt_of_le (Nat.lt_trans hpr HR.out.res.lt) HO1.out.size) HO2.out.size
    have e1:=rleft_on ((o9.block p (Nat.lt_of_lt_of_le (Nat.lt_of_lt_of_le hpY HB2.out.size) hbZ.size) (by omega)).trans ((hbZ.block p (Nat.lt_of_lt_of_le hpY HB2.out.size)).trans (HB2.out.block p hpY)))
    rw[e1]
    have:=HLF.out
    simp only[List.length_cons]
    omega)
   clear hn1 hn2 hcz hbZ qz o9 NC c0 c1 c2 c3 c4 c5 c6 c7 c8 d0 d1 d2 d3 d4 d5 d6 d7 d8 kl ql fz W2
   go_wp2_with fail
   go_roundw
   case rel=>exact⟨_,ST.out.1,ST.out.2⟩
   case measure=>exact HLT.out
  ·
   have HX:=zH hx
   have HQ:=zH (show (nt l2).bind (fun y r=>chainW nt opsProd (exTwo 7 e y) r)=res from hq)
   have hm2:=hR1.left
   have HM2:=zH hm2
   have WN:=zH (rsign_no p z k T (t :: l2) [42] W hR1 hc1)
   have WH:=zH hR1
   have WC:=zH hc
   clear hR1 hc hc1 hx hq hS hm2
   go_wp2_with fail
   refine WN.out.mono ?_
   rintro e1 V1 ⟨rfl,hb1⟩
   have WY:=zH (rsign_yes p z k T t l2 [47] V1 (WH.out.below hb1) WC.out)
   have OB1:=zH (Out.of (S:=fun j=>j=p) hb1)
   clear hb1
   go_wp2_with fail
   refine WY.out.mono ?_
   rintro e1 X1 ⟨rfl,hR2,hOX⟩
   have hO1:=OB1.out.trans hOX
   clear WY hOX
   have CN:=zH (HC.out _ X1 (.inl ⟨l2,hR2,rfl⟩))
   have HO1:=zH hO1
   clear hR2 hO1
   go_wp2_with fail
   refine CN.out.mono ?_
   intro e2 Y hA2
   have HLF:=zH (RAns.left HK.out hA2)
   obtain⟨⟨hop,⟨hvk,hvn,hvs⟩,hrel,hcol,hn,hs,hq,hlen,hc⟩,rfl,hO2,hAlt2⟩:=hA2.alt (fun y r=>chainW nt opsProd (exTwo 7 e y) r)
   rw[HQ.out] at hAlt2
   obtain⟨Y2,hY2⟩:∃ V0,V0=Y.alloc (.cells #[.int .i64 hop,.int .i64 hvk,.int .i64 hvn,.string hvs,.int .i64 hrel,.int .i64 hcol,.int .i64 hn,.string hs,.slice hq hlen hc] 44):=⟨_,rfl⟩
   have bY2:Below Y.heap.size Y Y2:=by rw[hY2];exact ext_alloc (ext_refl _) _
   have kY2:BkA Y2 Y.heap.size (RawE.cells ⟨hop,⟨hvk,hvn,hvs⟩,hrel,hcol,hn,hs,hq,hlen,hc⟩):=by rw[hY2];exact BkA.new Y (RawE.cells ⟨hop,⟨hvk,hvn,hvs⟩,hrel,hcol,hn,hs,hq,hlen,hc⟩) 44
   have HY2:=zH hY2
   have HA2:=zH hAlt2
   have HO2:=zH hO2
   have HB2:=zH bY2
   have q:=((HR.out.val.outs HO1.out (by have:=HR.out.res.lt;omega)).outs hO2 (by omega)).on bY2
   obtain⟨c0,c1,c2,c3,c4,c5,c6,c7,c8⟩:=q.c9_ rfl
   obtain⟨d0,d1,d2,d3,d4,d5,d6,d7,d8⟩:=kY2.c9_ rfl
   have ql:=q.lt
   have kl:=kY2.lt
   have fz:=q.fz
   have HQ2:=zH q
   have HK2:=zH kY2
   clear hA2 hAlt2 hO2 hY2 bY2 q kY2 CN
   go_upto_region 9 with fail
   rw[← HY2.out]
   clear HY2
   obtain⟨g5,hg5⟩:∃ g,g=Y.heap.size:=⟨_,rfl⟩
   rw[← hg5] at HK2 kl d0 d1 d2 d3 d4 d5 d6 d7 d8 ⊢
   have HG5:=zH hg5
   clear hg5
   have W2:=zH (rtwo_any 7 ⟨gop,⟨gvk,gvn,gvs⟩,grel,gcol,gn,gs,gq,glen,gc⟩ ⟨hop,⟨hvk,hvn,hvs⟩,hrel,hcol,hn,hs,hq,hlen,hc⟩ Y2)
   go_wp2_with fail
   refine W2.out.mono ?_
   rintro e3 Z ⟨⟨nb,hn1,hn2,hcz,rfl⟩,hbZ⟩
   have qz:=HQ2.out.on hbZ
   obtain⟨u0,u1,u2,u3,u4,u5,u6,u7,u8⟩:=qz.c9_ rfl
   have zl:=qz.lt
   have zf:=qz.fz
   have o9:=out9 Z ge (.int .i64 7) (.int .i64 0) (.int .i64 0) (.string ⟨#[]⟩) (.int .i64 0) (.int .i64 0) (.int .i64 0) (.string ⟨#[]⟩) (.slice (some ⟨nb,0,none⟩) 2 2)
   have NC:=qz.set9 (.int .i64 7) (.int .i64 0) (.int .i64 0) (.string ⟨#[]⟩) (.int .i64 0) (.int .i64 0) (.int .i64 0) (.string ⟨#[]⟩) (.slice (some ⟨nb,0,none⟩) 2 2)
   have ST:=zH (RCL.step (X1:=X1) (Y:=Y) (op:=7) (f:=chainW nt opsProd) (res:=res) (ry:=⟨hop,⟨hvk,hvn,hvs⟩,hrel,hcol,hn,hs,hq,hlen,hc⟩) HR.out (by rw[HGR.out];exact Nat.le_refl _) hgX hpr HX.out HO1.out HO2.out HA2.out (HB2.out.trans (hbZ.mono HB2.out.size)) (Nat.le_trans HB2.out.size hn1) hn2 hcz o9 NC)
   have HLT:=zH (show rleft (((((((((Z.setCell ⟨ge,0,none⟩ (.int .i64 7)).setCell ⟨ge,1,none⟩ (.int .i64 0)).setCell ⟨ge,2,none⟩ (.int .i64 0)).setCell ⟨ge,3,none⟩ (.string ⟨#[]⟩)).setCell ⟨ge,4,none⟩ (.int .i64 0)).setCell ⟨ge,5,none⟩ (.int .i64 0)).setCell ⟨ge,6,none⟩ (.int .i64 0)).setCell ⟨ge,7,none⟩ (.string ⟨#[]⟩)).setCell ⟨ge,8,none⟩ (.slice (some ⟨nb,0,none⟩) 2 2)) p<rleft W p by
    rw[HM2.out]
    have hpY:p<Y.heap.size:=Nat.lt_of_lt_of_le (Nat.lt_of_lt_of_le (Nat.lt_trans hpr HR.out.res.lt) HO1.out.size) HO2.out.size
    have e1:=rleft_on ((o9.block p (Nat.lt_of_lt_of_le (Nat.lt_of_lt_of_le hpY HB2.out.size) hbZ.size) (by omega)).trans ((hbZ.block p (Nat.lt_of_lt_of_le hpY HB2.out.size)).trans (HB2.out.block p hpY)))
    rw[e1]
    have:=HLF.out
    simp only[List.length_cons]
    omega)
   clear hn1 hn2 hcz hbZ qz o9 NC c0 c1 c2 c3 c4 c5 c6 c7 c8 d0 d1 d2 d3 d4 d5 d6 d7 d8 kl ql fz W2
   go_wp2_with fail
   go_roundw
   case rel=>exact⟨_,ST.out.1,ST.out.2⟩
   case measure=>exact HLT.out
  ·
   have HW:=zH WN1
   have HW2:=zH WN2
   have HAL:=zH AL
   clear WN1 WN2 AL hS
   go_wp2_with fail
   refine HW.out.mono ?_
   rintro e1 V1 ⟨rfl,hb1⟩
   have W3:=zH (HW2.out V1 hb1)
   have HB1:=zH hb1
   clear hb1
   go_wp2_with fail
   refine W3.out.mono ?_
   rintro e1 V ⟨rfl,hb2⟩
   have hb:=HB1.out.trans (hb2.mono HB1.out.size)
   have KV:=zH (HR.out.val.on hb)
   have RV:=zH (HR.out.res.on hb)
   have AV:=zH (HAL.out.below hb (Q:=fun j=>gr+1≤j∧j≠ge) (fun _ h _=>h))
   have OV:=zH (HR.out.out.trans (Out.of hb))
   clear hb hb2
   have q:=KV.out
   have q2:=RV.out
   obtain⟨c0,c1,c2,c3,c4,c5,c6,c7,c8⟩:=q.c9_ rfl
   obtain⟨d0,d1,d2,d3,d4,d5,d6,d7,d8⟩:=q2.c9_ rfl
   have ql:=q.lt
   have kl:=q2.lt
   have fz:=q2.fz
   clear q q2
   go_wp2_with fail
   have o9:=out9 V gr (.int .i64 gop) (.int .i64 gvk) (.int .i64 gvn) (.string gvs) (.int .i64 grel) (.int .i64 gcol) (.int .i64 gn) (.string gs) (.slice gq glen gc)
   have hM:=(AV.out).outs o9 (fun j (hj:j=gr)=>⟨by omega,fun h=>by have:=h.1;omega⟩) (Q:=fun j=>gr≤j) (fun j h _=>by have:=h.1;omega)
   refine bodyPost_ret (v:=.agg #[.int .i64 gop,.int .i64 gvk,.int .i64 gvn,.string gvs,.int .i64 grel,.int .i64 gcol,.int .i64 gn,.string gs,.slice gq glen gc]) (by simp[results,Tryz.results122,go_sem,zeroVal,d0,d1,d2,d3,d4,d5,d6,d7,d8]) rfl (hM.ans (Out.down ((OV.out).trans (o9.mono fun j _ (hj:j=gr)=>.inr (by have:=HGR.out;omega)))) (fun j hj=>by have:=HGR.out;omega))
end Go.Proofs.YtapbglhjamddbaaGreatDoor
