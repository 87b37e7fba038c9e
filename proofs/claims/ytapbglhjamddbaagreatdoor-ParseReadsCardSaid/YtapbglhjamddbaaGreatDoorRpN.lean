/- A part of the proof. -/
import Derived.Test.YtapbglhjamddbaaGreatDoorRpM
import Derived.Test.YtapbglhjamddbaaGreatDoorQaD
import Derived.Deep.CutBlock
import Derived.Test.YtapbglhjamddbaaGreatDoorHd
set_option linter.unusedSimpArgs false
set_option linter.unusedVariables false
namespace Go.Proofs.YtapbglhjamddbaaGreatDoor
open Go.RowKit Go.Deep
set_option maxRecDepth 100000
def ShF (v:Value):Prop:=∃ r:RawF,v=.agg #[.string r.table,.string r.alias,.int .i64 r.kind,.slice r.q r.n r.c]
theorem Tryz.tokKind7 (k n a:Int) (s:ByteArray) (w:World):(Instr.field 82 (.agg #[.int .i64 k,.int .i64 n,.int .i64 a,.string s]) 0).run Tryz.prog w=.ok (.int .i64 k) w:=by kernel_rfl
theorem out4r (X:World) (g:Nat) (v0 v1 v2 v3:Value):Out (fun j=>j=g) X ((((X.setCell ⟨g,0,none⟩ v0).setCell ⟨g,1,none⟩ v1).setCell ⟨g,2,none⟩ v2).setCell ⟨g,3,none⟩ v3) :=
 (((out_p X g 0 v0).trans (out_p _ g 1 v1)).trans (out_p _ g 2 v2)).trans (out_p _ g 3 v3)
set_option maxHeartbeats 8000000 in
theorem rtable_kindF (p z k:Nat) (T:List Tok) (kind:Int) (w:World) (l:List Tok) (h:RO w p z T l k) (hk:(hd z l).kd≠2):Calls Tryz.prog 31 #[.pointer (some ⟨p,0,none⟩),.int .i64 kind,.bool true] w (RAns FrV ShF p z T k (.err 7 (hAt z l)) w):=by
 have lp:=h.lt
 have HH:=zH h
 have HK:=zH hk
 obtain⟨a,ha⟩:∃ x,x=hAt z l:=⟨_,rfl⟩
 rw[← ha]
 have HAT:=zH ha
 obtain⟨er,her⟩:∃ e:Nat,e=7:=⟨_,rfl⟩
 rw[show (PR.err 7 a:PR Fr)=.err er a by rw[her]]
 have HER:=zH her
 clear ha her hk
 have HRES:=zH (rfl:(PR.err er a:PR Fr)=.err er a)
 clear h
 obtain⟨A,hA⟩:∃ V0,V0=w.alloc (.cells #[.string ⟨#[]⟩,.string ⟨#[]⟩,.int .i64 0,.slice none 0 0] 40):=⟨_,rfl⟩
 have b0:Below w.heap.size w A:=by rw[hA];exact ext_alloc (ext_refl _) _
 have N0:BkA A w.heap.size [.string ⟨#[]⟩,.string ⟨#[]⟩,.int .i64 0,.slice none 0 0]:=by rw[hA];exact BkA.new w [.string ⟨#[]⟩,.string ⟨#[]⟩,.int .i64 0,.slice none 0 0] 40
 have HN:=zH N0
 have HB:=zH b0
 have HA:=zH hA
 have hpA:=Nat.lt_of_lt_of_le lp b0.size
 clear b0 N0 hA
 go_enter Tryz.func31,Tryz.ntmps31
 go_upto_region 1 with fail
 rw[← HA.out]
 obtain⟨gr,hgr⟩:∃ g,g=w.heap.size:=⟨_,rfl⟩
 have HGR:=zH hgr
 rw[← hgr] at HN ⊢
 have hpr:p<gr:=by omega
 clear HA hgr
 obtain⟨j0,pl0,e0,hs0⟩:=(HH.out.below HB.out).st
 have CH:=zH (rhere_any p z T j0 0 pl0 k A hs0)
 rw[← e0] at CH
 obtain⟨⟨kd,tn,ta,ts⟩,ht⟩:∃ t,t=hd z l:=⟨_,rfl⟩
 have hkk:kd≠2:=by have h:=HK.out;rw[← ht] at h;exact h
 rw[← ht] at CH
 clear ht hs0 e0
 have fk:=fun w=>Tryz.tokKind7 kd tn ta (bsB ts) w
 go_wp2_with fail
 refine CH.out.mono ?_
 rintro e0 V ⟨rfl,hb⟩
 have RV0:=zH (HN.out.on hb)
 have OV0:=zH ((Out.of (S:=fun j=>j=p∨w.heap.size≤j) HB.out).trans (Out.of hb))
 have i2:((kd:Int) == 2)=false:=by rw[beq_eq_false_iff_ne];omega
 have NMC:=zH (rname_no p z k T l V ((HH.out.below HB.out).below hb) HK.out)
 clear hb CH
 go_wp2_with fail
 refine NMC.out.mono ?_
 rintro e2 X ⟨rfl,hE,hO⟩
 have RV:=zH (RV0.out.outs hO (by omega))
 have OV:=zH (OV0.out.trans (hO.up (N:=w.heap.size)))
 have RRE:=zH (by rw[HER.out,HAT.out];exact hE:RE X p z T er a)
 clear hE hO NMC
 obtain⟨Y,hY⟩:∃ V0,V0=X.alloc (.cells #[.string ⟨#[]⟩,.string ⟨#[]⟩,.int .i64 kind,.slice none 0 0] 40):=⟨_,rfl⟩
 have bY:Below X.heap.size X Y:=by rw[hY];exact ext_alloc (ext_refl _) _
 have kY:BkA Y X.heap.size [.string ⟨#[]⟩,.string ⟨#[]⟩,.int .i64 kind,.slice none 0 0]:=by rw[hY];exact BkA.new X [.string ⟨#[]⟩,.string ⟨#[]⟩,.int .i64 kind,.slice none 0 0] 40
 have HY:=zH hY
 have TY:=zH kY
 have RY:=zH (RV.out.on bY)
 have OY:=zH (OV.out.trans (Out.of bY))
 have hgV:gr<X.heap.size:=RV.out.lt
 have RR:=zH (RRE.out.below bY)
 obtain⟨dd,-,-,lpY,c3,-⟩:=RR.out.deep
 have hne:((er:Int) == 0)=false:=by rw[beq_eq_false_iff_ne];have:=RR.out.ne;omega
 clear hY bY kY RRE
 go_upto_region 5 with fail
 rw[← HY.out]
 clear HY
 obtain⟨gf,hgf⟩:∃ g,g=X.heap.size:=⟨_,rfl⟩
 rw[← hgf] at TY hgV ⊢
 clear hgf
 go_upto_region 7 with fail
 clear c3 lpY
 have qx:=TY.out
 have q2:=RY.out
 obtain⟨c0,c1,c2,c3⟩:=qx.c4_ rfl
 obtain⟨u0,u1,u2,u3⟩:=q2.c4_ rfl
 have ql:=qx.lt
 have zl:=q2.lt
 have zf:=q2.fz
 have o4:Out (fun j=>j=gr) Y ((((Y.setCell ⟨gr,0,none⟩ (.string ⟨#[]⟩)).setCell ⟨gr,1,none⟩ (.string ⟨#[]⟩)).setCell ⟨gr,2,none⟩ (.int .i64 kind)).setCell ⟨gr,3,none⟩ (.slice none 0 0)):=out4r Y gr _ _ _ _
 have HO:=zH (Out.down ((OY.out).trans (o4.mono fun j _ (hj:j=gr)=>.inr (by have:=HGR.out;omega))))
 have HRF:=zH (RR.out.outs o4 (fun j (hj:j=gr)=>by omega))
 clear qx q2 o4
 go_wp2_with fail
 exact bodyPost_ret (v:=.agg #[.string ⟨#[]⟩,.string ⟨#[]⟩,.int .i64 kind,.slice none 0 0]) (by simp[results,Tryz.results31,go_sem,u0,u1,u2,u3]) rfl (RAns.mkErr rfl HO.out ⟨⟨⟨#[]⟩,⟨#[]⟩,kind,none,0,0⟩,rfl⟩ HRF.out)
set_option maxHeartbeats 8000000 in
theorem rtable_kindN (p z k:Nat) (T:List Tok) (kind:Int) (w:World) (l:List Tok) (h:RO w p z T l k) (hk:(hd z l).kd≠2):Calls Tryz.prog 31 #[.pointer (some ⟨p,0,none⟩),.int .i64 kind,.bool false] w (RAns FrV ShF p z T k (.err 7 (hAt z l)) w):=by
 have lp:=h.lt
 have HH:=zH h
 have HK:=zH hk
 obtain⟨a,ha⟩:∃ x,x=hAt z l:=⟨_,rfl⟩
 rw[← ha]
 have HAT:=zH ha
 obtain⟨er,her⟩:∃ e:Nat,e=7:=⟨_,rfl⟩
 rw[show (PR.err 7 a:PR Fr)=.err er a by rw[her]]
 have HER:=zH her
 clear ha her hk
 have HRES:=zH (rfl:(PR.err er a:PR Fr)=.err er a)
 clear h
 obtain⟨A,hA⟩:∃ V0,V0=w.alloc (.cells #[.string ⟨#[]⟩,.string ⟨#[]⟩,.int .i64 0,.slice none 0 0] 40):=⟨_,rfl⟩
 have b0:Below w.heap.size w A:=by rw[hA];exact ext_alloc (ext_refl _) _
 have N0:BkA A w.heap.size [.string ⟨#[]⟩,.string ⟨#[]⟩,.int .i64 0,.slice none 0 0]:=by rw[hA];exact BkA.new w [.string ⟨#[]⟩,.string ⟨#[]⟩,.int .i64 0,.slice none 0 0] 40
 have HN:=zH N0
 have HB:=zH b0
 have HA:=zH hA
 have hpA:=Nat.lt_of_lt_of_le lp b0.size
 clear b0 N0 hA
 go_enter Tryz.func31,Tryz.ntmps31
 go_upto_region 1 with fail
 rw[← HA.out]
 obtain⟨gr,hgr⟩:∃ g,g=w.heap.size:=⟨_,rfl⟩
 have HGR:=zH hgr
 rw[← hgr] at HN ⊢
 have hpr:p<gr:=by omega
 clear HA hgr
 have OV0:=zH (Out.of (S:=fun j=>j=p∨w.heap.size≤j) HB.out)
 have RV0:=HN
 have NMC:=zH (rname_no p z k T l A (HH.out.below HB.out) HK.out)
 go_wp2_with fail
 refine NMC.out.mono ?_
 rintro e2 X ⟨rfl,hE,hO⟩
 have RV:=zH (RV0.out.outs hO (by omega))
 have OV:=zH (OV0.out.trans (hO.up (N:=w.heap.size)))
 have RRE:=zH (by rw[HER.out,HAT.out];exact hE:RE X p z T er a)
 clear hE hO NMC
 obtain⟨Y,hY⟩:∃ V0,V0=X.alloc (.cells #[.string ⟨#[]⟩,.string ⟨#[]⟩,.int .i64 kind,.slice none 0 0] 40):=⟨_,rfl⟩
 have bY:Below X.heap.size X Y:=by rw[hY];exact ext_alloc (ext_refl _) _
 have kY:BkA Y X.heap.size [.string ⟨#[]⟩,.string ⟨#[]⟩,.int .i64 kind,.slice none 0 0]:=by rw[hY];exact BkA.new X [.string ⟨#[]⟩,.string ⟨#[]⟩,.int .i64 kind,.slice none 0 0] 40
 have HY:=zH hY
 have TY:=zH kY
 have RY:=zH (RV.out.on bY)
 have OY:=zH (OV.out.trans (Out.of bY))
 have hgV:gr<X.heap.size:=RV.out.lt
 have RR:=zH (RRE.out.below bY)
 obtain⟨dd,-,-,lpY,c3,-⟩:=RR.out.deep
 have hne:((er:Int) == 0)=false:=by rw[beq_eq_false_iff_ne];have:=RR.out.ne;omega
 clear hY bY kY RRE
 go_upto_region 5 with fail
 rw[← HY.out]
 clear HY
 obtain⟨gf,hgf⟩:∃ g,g=X.heap.size:=⟨_,rfl⟩
 rw[← hgf] at TY hgV ⊢
 clear hgf
 go_upto_region 7 with fail
 clear c3 lpY
 have qx:=TY.out
 have q2:=RY.out
 obtain⟨c0,c1,c2,c3⟩:=qx.c4_ rfl
 obtain⟨u0,u1,u2,u3⟩:=q2.c4_ rfl
 have ql:=qx.lt
 have zl:=q2.lt
 have zf:=q2.fz
 have o4:Out (fun j=>j=gr) Y ((((Y.setCell ⟨gr,0,none⟩ (.string ⟨#[]⟩)).setCell ⟨gr,1,none⟩ (.string ⟨#[]⟩)).setCell ⟨gr,2,none⟩ (.int .i64 kind)).setCell ⟨gr,3,none⟩ (.slice none 0 0)):=out4r Y gr _ _ _ _
 have HO:=zH (Out.down ((OY.out).trans (o4.mono fun j _ (hj:j=gr)=>.inr (by have:=HGR.out;omega))))
 have HRF:=zH (RR.out.outs o4 (fun j (hj:j=gr)=>by omega))
 clear qx q2 o4
 go_wp2_with fail
 exact bodyPost_ret (v:=.agg #[.string ⟨#[]⟩,.string ⟨#[]⟩,.int .i64 kind,.slice none 0 0]) (by simp[results,Tryz.results31,go_sem,u0,u1,u2,u3]) rfl (RAns.mkErr rfl HO.out ⟨⟨⟨#[]⟩,⟨#[]⟩,kind,none,0,0⟩,rfl⟩ HRF.out)
set_option maxHeartbeats 8000000 in
theorem rtable_roomF (p z k:Nat) (T:List Tok) (kind:Int) (w:World) (l:List Tok) (h:RO w p z T l k) (hk:(hd z l).kd=2):Calls Tryz.prog 31 #[.pointer (some ⟨p,0,none⟩),.int .i64 kind,.bool true] w (RAns FrV ShF p z T k (.err 5 (hAt z l)) w):=by
 have lp:=h.lt
 have HH:=zH h
 have HK:=zH hk
 obtain⟨a,ha⟩:∃ x,x=hAt z l:=⟨_,rfl⟩
 rw[← ha]
 have HAT:=zH ha
 obtain⟨er,her⟩:∃ e:Nat,e=5:=⟨_,rfl⟩
 rw[show (PR.err 5 a:PR Fr)=.err er a by rw[her]]
 have HER:=zH her
 clear ha her hk
 have HRES:=zH (rfl:(PR.err er a:PR Fr)=.err er a)
 clear h
 obtain⟨A,hA⟩:∃ V0,V0=w.alloc (.cells #[.string ⟨#[]⟩,.string ⟨#[]⟩,.int .i64 0,.slice none 0 0] 40):=⟨_,rfl⟩
 have b0:Below w.heap.size w A:=by rw[hA];exact ext_alloc (ext_refl _) _
 have N0:BkA A w.heap.size [.string ⟨#[]⟩,.string ⟨#[]⟩,.int .i64 0,.slice none 0 0]:=by rw[hA];exact BkA.new w [.string ⟨#[]⟩,.string ⟨#[]⟩,.int .i64 0,.slice none 0 0] 40
 have HN:=zH N0
 have HB:=zH b0
 have HA:=zH hA
 have hpA:=Nat.lt_of_lt_of_le lp b0.size
 clear b0 N0 hA
 go_enter Tryz.func31,Tryz.ntmps31
 go_upto_region 1 with fail
 rw[← HA.out]
 obtain⟨gr,hgr⟩:∃ g,g=w.heap.size:=⟨_,rfl⟩
 have HGR:=zH hgr
 rw[← hgr] at HN ⊢
 have hpr:p<gr:=by omega
 clear HA hgr
 obtain⟨j0,pl0,e0,hs0⟩:=(HH.out.below HB.out).st
 have CH:=zH (rhere_any p z T j0 0 pl0 k A hs0)
 rw[← e0] at CH
 obtain⟨⟨kd,tn,ta,ts⟩,ht⟩:∃ t,t=hd z l:=⟨_,rfl⟩
 have hkk:kd=2:=by have h:=HK.out;rw[← ht] at h;exact h
 rw[← ht] at CH
 clear ht hs0 e0
 subst hkk
 have fk:=fun w=>Tryz.tokKind7 2 tn ta (bsB ts) w
 go_wp2_with fail
 refine CH.out.mono ?_
 rintro e0 V ⟨rfl,hb⟩
 have RV0:=zH (HN.out.on hb)
 have OV0:=zH ((Out.of (S:=fun j=>j=p∨w.heap.size≤j) HB.out).trans (Out.of hb))
 have NO:=zH (rno_ok 5 (by decide) ((HH.out.below HB.out).below hb))
 clear hb CH
 go_wp2_with fail
 refine NO.out.mono ?_
 rintro e1 V1 ⟨rfl,hE,hO⟩
 replace RV0:=zH (RV0.out.outs hO (by omega))
 replace OV0:=zH (OV0.out.trans (hO.up (N:=w.heap.size)))
 have ST:=zH (show RE V1 p z T er a by rw[HER.out,HAT.out];exact hE)
 have NMC:=zH (rname_err p z T er a V1 ST.out)
 clear hE hO NO
 go_wp2_with fail
 refine NMC.out.mono ?_
 rintro e2 X ⟨rfl,hb2⟩
 have RV:=zH (RV0.out.on hb2)
 have OV:=zH (OV0.out.trans (Out.of hb2))
 have RRE:=zH (ST.out.below hb2:RE X p z T er a)
 clear hb2 NMC
 obtain⟨Y,hY⟩:∃ V0,V0=X.alloc (.cells #[.string ⟨#[]⟩,.string ⟨#[]⟩,.int .i64 kind,.slice none 0 0] 40):=⟨_,rfl⟩
 have bY:Below X.heap.size X Y:=by rw[hY];exact ext_alloc (ext_refl _) _
 have kY:BkA Y X.heap.size [.string ⟨#[]⟩,.string ⟨#[]⟩,.int .i64 kind,.slice none 0 0]:=by rw[hY];exact BkA.new X [.string ⟨#[]⟩,.string ⟨#[]⟩,.int .i64 kind,.slice none 0 0] 40
 have HY:=zH hY
 have TY:=zH kY
 have RY:=zH (RV.out.on bY)
 have OY:=zH (OV.out.trans (Out.of bY))
 have hgV:gr<X.heap.size:=RV.out.lt
 have RR:=zH (RRE.out.below bY)
 obtain⟨dd,-,-,lpY,c3,-⟩:=RR.out.deep
 have hne:((er:Int) == 0)=false:=by rw[beq_eq_false_iff_ne];have:=RR.out.ne;omega
 clear hY bY kY RRE
 go_upto_region 5 with fail
 rw[← HY.out]
 clear HY
 obtain⟨gf,hgf⟩:∃ g,g=X.heap.size:=⟨_,rfl⟩
 rw[← hgf] at TY hgV ⊢
 clear hgf
 go_upto_region 7 with fail
 clear c3 lpY
 have qx:=TY.out
 have q2:=RY.out
 obtain⟨c0,c1,c2,c3⟩:=qx.c4_ rfl
 obtain⟨u0,u1,u2,u3⟩:=q2.c4_ rfl
 have ql:=qx.lt
 have zl:=q2.lt
 have zf:=q2.fz
 have o4:Out (fun j=>j=gr) Y ((((Y.setCell ⟨gr,0,none⟩ (.string ⟨#[]⟩)).setCell ⟨gr,1,none⟩ (.string ⟨#[]⟩)).setCell ⟨gr,2,none⟩ (.int .i64 kind)).setCell ⟨gr,3,none⟩ (.slice none 0 0)):=out4r Y gr _ _ _ _
 have HO:=zH (Out.down ((OY.out).trans (o4.mono fun j _ (hj:j=gr)=>.inr (by have:=HGR.out;omega))))
 have HRF:=zH (RR.out.outs o4 (fun j (hj:j=gr)=>by omega))
 clear qx q2 o4
 go_wp2_with fail
 exact bodyPost_ret (v:=.agg #[.string ⟨#[]⟩,.string ⟨#[]⟩,.int .i64 kind,.slice none 0 0]) (by simp[results,Tryz.results31,go_sem,u0,u1,u2,u3]) rfl (RAns.mkErr rfl HO.out ⟨⟨⟨#[]⟩,⟨#[]⟩,kind,none,0,0⟩,rfl⟩ HRF.out)
set_option maxHeartbeats 8000000 in
theorem rtable_errF (p z k:Nat) (T:List Tok) (kind:Int) (w:World) (er a:Nat) (h:RE w p z T er a):Calls Tryz.prog 31 #[.pointer (some ⟨p,0,none⟩),.int .i64 kind,.bool true] w (RAns FrV ShF p z T k (.err er a) w):=by
 have lp:=h.lt
 have HH:=zH h
 have HRES:=zH (rfl:(PR.err er a:PR Fr)=.err er a)
 clear h
 obtain⟨A,hA⟩:∃ V0,V0=w.alloc (.cells #[.string ⟨#[]⟩,.string ⟨#[]⟩,.int .i64 0,.slice none 0 0] 40):=⟨_,rfl⟩
 have b0:Below w.heap.size w A:=by rw[hA];exact ext_alloc (ext_refl _) _
 have N0:BkA A w.heap.size [.string ⟨#[]⟩,.string ⟨#[]⟩,.int .i64 0,.slice none 0 0]:=by rw[hA];exact BkA.new w [.string ⟨#[]⟩,.string ⟨#[]⟩,.int .i64 0,.slice none 0 0] 40
 have HN:=zH N0
 have HB:=zH b0
 have HA:=zH hA
 have hpA:=Nat.lt_of_lt_of_le lp b0.size
 clear b0 N0 hA
 go_enter Tryz.func31,Tryz.ntmps31
 go_upto_region 1 with fail
 rw[← HA.out]
 obtain⟨gr,hgr⟩:∃ g,g=w.heap.size:=⟨_,rfl⟩
 have HGR:=zH hgr
 rw[← hgr] at HN ⊢
 have hpr:p<gr:=by omega
 clear HA hgr
 obtain⟨j0,d0,hs0⟩:=(HH.out.below HB.out).st
 have CH:=zH (rhere_any p z T j0 er a d0 A hs0)
 obtain⟨⟨kd,tn,ta,ts⟩,ht⟩:∃ t,t=hd z (T.drop j0):=⟨_,rfl⟩
 rw[← ht] at CH
 clear ht hs0
 have fk:=fun w=>Tryz.tokKind7 kd tn ta (bsB ts) w
 go_wp2_with fail
 refine CH.out.mono ?_
 rintro e0 V ⟨rfl,hb⟩
 have RV0:=zH (HN.out.on hb)
 have OV0:=zH ((Out.of (S:=fun j=>j=p∨w.heap.size≤j) HB.out).trans (Out.of hb))
 have ST0:=zH ((HH.out.below HB.out).below hb)
 clear hb CH
 by_cases h2:kd=2
 ·have i2:((kd:Int) == 2)=true:=by rw[beq_iff_eq];omega
  have NO:=zH (rno_more p z T er a 5 V ST0.out)
  clear h2
  go_wp2_with fail
  refine NO.out.mono ?_
  rintro e1 V1 ⟨rfl,hb1⟩
  replace RV0:=zH (RV0.out.on hb1)
  replace OV0:=zH (OV0.out.trans (Out.of hb1))
  have ST:=zH (ST0.out.below hb1)
  have NMC:=zH (rname_err p z T er a V1 ST.out)
  clear hb1 NO i2 ST0
  go_wp2_with fail
  refine NMC.out.mono ?_
  rintro e2 X ⟨rfl,hb2⟩
  have RV:=zH (RV0.out.on hb2)
  have OV:=zH (OV0.out.trans (Out.of hb2))
  have RRE:=zH (ST.out.below hb2:RE X p z T er a)
  clear hb2 NMC
  obtain⟨Y,hY⟩:∃ V0,V0=X.alloc (.cells #[.string ⟨#[]⟩,.string ⟨#[]⟩,.int .i64 kind,.slice none 0 0] 40):=⟨_,rfl⟩
  have bY:Below X.heap.size X Y:=by rw[hY];exact ext_alloc (ext_refl _) _
  have kY:BkA Y X.heap.size [.string ⟨#[]⟩,.string ⟨#[]⟩,.int .i64 kind,.slice none 0 0]:=by rw[hY];exact BkA.new X [.string ⟨#[]⟩,.string ⟨#[]⟩,.int .i64 kind,.slice none 0 0] 40
  have HY:=zH hY
  have TY:=zH kY
  have RY:=zH (RV.out.on bY)
  have OY:=zH (OV.out.trans (Out.of bY))
  have hgV:gr<X.heap.size:=RV.out.lt
  have RR:=zH (RRE.out.below bY)
  obtain⟨dd,-,-,lpY,c3,-⟩:=RR.out.deep
  have hne:((er:Int) == 0)=false:=by rw[beq_eq_false_iff_ne];have:=RR.out.ne;omega
  clear hY bY kY RRE
  go_upto_region 5 with fail
  rw[← HY.out]
  clear HY
  obtain⟨gf,hgf⟩:∃ g,g=X.heap.size:=⟨_,rfl⟩
  rw[← hgf] at TY hgV ⊢
  clear hgf
  go_upto_region 7 with fail
  clear c3 lpY
  have qx:=TY.out
  have q2:=RY.out
  obtain⟨c0,c1,c2,c3⟩:=qx.c4_ rfl
  obtain⟨u0,u1,u2,u3⟩:=q2.c4_ rfl
  have ql:=qx.lt
  have zl:=q2.lt
  have zf:=q2.fz
  have o4:Out (fun j=>j=gr) Y ((((Y.setCell ⟨gr,0,none⟩ (.string ⟨#[]⟩)).setCell ⟨gr,1,none⟩ (.string ⟨#[]⟩)).setCell ⟨gr,2,none⟩ (.int .i64 kind)).setCell ⟨gr,3,none⟩ (.slice none 0 0)):=out4r Y gr _ _ _ _
  have HO:=zH (Out.down ((OY.out).trans (o4.mono fun j _ (hj:j=gr)=>.inr (by have:=HGR.out;omega))))
  have HRF:=zH (RR.out.outs o4 (fun j (hj:j=gr)=>by omega))
  clear qx q2 o4
  go_wp2_with fail
  exact bodyPost_ret (v:=.agg #[.string ⟨#[]⟩,.string ⟨#[]⟩,.int .i64 kind,.slice none 0 0]) (by simp[results,Tryz.results31,go_sem,u0,u1,u2,u3]) rfl (RAns.mkErr rfl HO.out ⟨⟨⟨#[]⟩,⟨#[]⟩,kind,none,0,0⟩,rfl⟩ HRF.out)
 ·have i2:((kd:Int) == 2)=false:=by rw[beq_eq_false_iff_ne];omega
  have ST:=ST0
  have NMC:=zH (rname_err p z T er a V ST.out)
  clear h2 ST0
  go_wp2_with fail
  refine NMC.out.mono ?_
  rintro e2 X ⟨rfl,hb2⟩
  have RV:=zH (RV0.out.on hb2)
  have OV:=zH (OV0.out.trans (Out.of hb2))
  have RRE:=zH (ST.out.below hb2:RE X p z T er a)
  clear hb2 NMC
  obtain⟨Y,hY⟩:∃ V0,V0=X.alloc (.cells #[.string ⟨#[]⟩,.string ⟨#[]⟩,.int .i64 kind,.slice none 0 0] 40):=⟨_,rfl⟩
  have bY:Below X.heap.size X Y:=by rw[hY];exact ext_alloc (ext_refl _) _
  have kY:BkA Y X.heap.size [.string ⟨#[]⟩,.string ⟨#[]⟩,.int .i64 kind,.slice none 0 0]:=by rw[hY];exact BkA.new X [.string ⟨#[]⟩,.string ⟨#[]⟩,.int .i64 kind,.slice none 0 0] 40
  have HY:=zH hY
  have TY:=zH kY
  have RY:=zH (RV.out.on bY)
  have OY:=zH (OV.out.trans (Out.of bY))
  have hgV:gr<X.heap.size:=RV.out.lt
  have RR:=zH (RRE.out.below bY)
  obtain⟨dd,-,-,lpY,c3,-⟩:=RR.out.deep
  have hne:((er:Int) == 0)=false:=by rw[beq_eq_false_iff_ne];have:=RR.out.ne;omega
  clear hY bY kY RRE
  go_upto_region 5 with fail
  rw[← HY.out]
  clear HY
  obtain⟨gf,hgf⟩:∃ g,g=X.heap.size:=⟨_,rfl⟩
  rw[← hgf] at TY hgV ⊢
  clear hgf
  go_upto_region 7 with fail
  clear c3 lpY
  have qx:=TY.out
  have q2:=RY.out
  obtain⟨c0,c1,c2,c3⟩:=qx.c4_ rfl
  obtain⟨u0,u1,u2,u3⟩:=q2.c4_ rfl
  have ql:=qx.lt
  have zl:=q2.lt
  have zf:=q2.fz
  have o4:Out (fun j=>j=gr) Y ((((Y.setCell ⟨gr,0,none⟩ (.string ⟨#[]⟩)).setCell ⟨gr,1,none⟩ (.string ⟨#[]⟩)).setCell ⟨gr,2,none⟩ (.int .i64 kind)).setCell ⟨gr,3,none⟩ (.slice none 0 0)):=out4r Y gr _ _ _ _
  have HO:=zH (Out.down ((OY.out).trans (o4.mono fun j _ (hj:j=gr)=>.inr (by have:=HGR.out;omega))))
  have HRF:=zH (RR.out.outs o4 (fun j (hj:j=gr)=>by omega))
  clear qx q2 o4
  go_wp2_with fail
  exact bodyPost_ret (v:=.agg #[.string ⟨#[]⟩,.string ⟨#[]⟩,.int .i64 kind,.slice none 0 0]) (by simp[results,Tryz.results31,go_sem,u0,u1,u2,u3]) rfl (RAns.mkErr rfl HO.out ⟨⟨⟨#[]⟩,⟨#[]⟩,kind,none,0,0⟩,rfl⟩ HRF.out)
set_option maxHeartbeats 8000000 in
theorem rtable_errN (p z k:Nat) (T:List Tok) (kind:Int) (w:World) (er a:Nat) (h:RE w p z T er a):Calls Tryz.prog 31 #[.pointer (some ⟨p,0,none⟩),.int .i64 kind,.bool false] w (RAns FrV ShF p z T k (.err er a) w):=by
 have lp:=h.lt
 have HH:=zH h
 have HRES:=zH (rfl:(PR.err er a:PR Fr)=.err er a)
 clear h
 obtain⟨A,hA⟩:∃ V0,V0=w.alloc (.cells #[.string ⟨#[]⟩,.string ⟨#[]⟩,.int .i64 0,.slice none 0 0] 40):=⟨_,rfl⟩
 have b0:Below w.heap.size w A:=by rw[hA];exact ext_alloc (ext_refl _) _
 have N0:BkA A w.heap.size [.string ⟨#[]⟩,.string ⟨#[]⟩,.int .i64 0,.slice none 0 0]:=by rw[hA];exact BkA.new w [.string ⟨#[]⟩,.string ⟨#[]⟩,.int .i64 0,.slice none 0 0] 40
 have HN:=zH N0
 have HB:=zH b0
 have HA:=zH hA
 have hpA:=Nat.lt_of_lt_of_le lp b0.size
 clear b0 N0 hA
 go_enter Tryz.func31,Tryz.ntmps31
 go_upto_region 1 with fail
 rw[← HA.out]
 obtain⟨gr,hgr⟩:∃ g,g=w.heap.size:=⟨_,rfl⟩
 have HGR:=zH hgr
 rw[← hgr] at HN ⊢
 have hpr:p<gr:=by omega
 clear HA hgr
 have OV0:=zH (Out.of (S:=fun j=>j=p∨w.heap.size≤j) HB.out)
 have RV0:=HN
 have ST:=zH (HH.out.below HB.out)
 have NMC:=zH (rname_err p z T er a A ST.out)
 go_wp2_with fail
 refine NMC.out.mono ?_
 rintro e2 X ⟨rfl,hb2⟩
 have RV:=zH (RV0.out.on hb2)
 have OV:=zH (OV0.out.trans (Out.of hb2))
 have RRE:=zH (ST.out.below hb2:RE X p z T er a)
 clear hb2 NMC
 obtain⟨Y,hY⟩:∃ V0,V0=X.alloc (.cells #[.string ⟨#[]⟩,.string ⟨#[]⟩,.int .i64 kind,.slice none 0 0] 40):=⟨_,rfl⟩
 have bY:Below X.heap.size X Y:=by rw[hY];exact ext_alloc (ext_refl _) _
 have kY:BkA Y X.heap.size [.string ⟨#[]⟩,.string ⟨#[]⟩,.int .i64 kind,.slice none 0 0]:=by rw[hY];exact BkA.new X [.string ⟨#[]⟩,.string ⟨#[]⟩,.int .i64 kind,.slice none 0 0] 40
 have HY:=zH hY
 have TY:=zH kY
 have RY:=zH (RV.out.on bY)
 have OY:=zH (OV.out.trans (Out.of bY))
 have hgV:gr<X.heap.size:=RV.out.lt
 have RR:=zH (RRE.out.below bY)
 obtain⟨dd,-,-,lpY,c3,-⟩:=RR.out.deep
 have hne:((er:Int) == 0)=false:=by rw[beq_eq_false_iff_ne];have:=RR.out.ne;omega
 clear hY bY kY RRE
 go_upto_region 5 with fail
 rw[← HY.out]
 clear HY
 obtain⟨gf,hgf⟩:∃ g,g=X.heap.size:=⟨_,rfl⟩
 rw[← hgf] at TY hgV ⊢
 clear hgf
 go_upto_region 7 with fail
 clear c3 lpY
 have qx:=TY.out
 have q2:=RY.out
 obtain⟨c0,c1,c2,c3⟩:=qx.c4_ rfl
 obtain⟨u0,u1,u2,u3⟩:=q2.c4_ rfl
 have ql:=qx.lt
 have zl:=q2.lt
 have zf:=q2.fz
 have o4:Out (fun j=>j=gr) Y ((((Y.setCell ⟨gr,0,none⟩ (.string ⟨#[]⟩)).setCell ⟨gr,1,none⟩ (.string ⟨#[]⟩)).setCell ⟨gr,2,none⟩ (.int .i64 kind)).setCell ⟨gr,3,none⟩ (.slice none 0 0)):=out4r Y gr _ _ _ _
 have HO:=zH (Out.down ((OY.out).trans (o4.mono fun j _ (hj:j=gr)=>.inr (by have:=HGR.out;omega))))
 have HRF:=zH (RR.out.outs o4 (fun j (hj:j=gr)=>by omega))
 clear qx q2 o4
 go_wp2_with fail
 exact bodyPost_ret (v:=.agg #[.string ⟨#[]⟩,.string ⟨#[]⟩,.int .i64 kind,.slice none 0 0]) (by simp[results,Tryz.results31,go_sem,u0,u1,u2,u3]) rfl (RAns.mkErr rfl HO.out ⟨⟨⟨#[]⟩,⟨#[]⟩,kind,none,0,0⟩,rfl⟩ HRF.out)
set_option maxHeartbeats 8000000 in
theorem rtable_good (p z k:Nat) (T:List Tok) (kind:Int) (w:World) (n0 a0:Nat) (s:Bs) (r:List Tok) (h:RO w p z T (⟨2,n0,a0,s⟩ :: r) k) (res:PR Fr) (hq:bAlias kind s r=res):Calls Tryz.prog 31 #[.pointer (some ⟨p,0,none⟩),.int .i64 kind,.bool false] w (RAns FrV ShF p z T k res w):=by
 have lp:=h.lt
 have HH:=zH h
 have HQ:=zH hq
 clear h hq
 obtain⟨A,hA⟩:∃ V0,V0=w.alloc (.cells #[.string ⟨#[]⟩,.string ⟨#[]⟩,.int .i64 0,.slice none 0 0] 40):=⟨_,rfl⟩
 have b0:Below w.heap.size w A:=by rw[hA];exact ext_alloc (ext_refl _) _
 have N0:BkA A w.heap.size [.string ⟨#[]⟩,.string ⟨#[]⟩,.int .i64 0,.slice none 0 0]:=by rw[hA];exact BkA.new w [.string ⟨#[]⟩,.string ⟨#[]⟩,.int .i64 0,.slice none 0 0] 40
 have HN:=zH N0
 have HB:=zH b0
 have HA:=zH hA
 have hpA:=Nat.lt_of_lt_of_le lp b0.size
 clear b0 N0 hA
 go_enter Tryz.func31,Tryz.ntmps31
 go_upto_region 1 with fail
 rw[← HA.out]
 obtain⟨gr,hgr⟩:∃ g,g=w.heap.size:=⟨_,rfl⟩
 have HGR:=zH hgr
 rw[← hgr] at HN ⊢
 have hpr:p<gr:=by omega
 clear HA hgr
 have NMC:=zH (rname_yes p z k T ⟨2,n0,a0,s⟩ r A (HH.out.below HB.out) rfl)
 go_wp2_with fail
 refine NMC.out.mono ?_
 rintro e2 X ⟨rfl,hR,hO⟩
 have RV:=zH (HN.out.outs hO (by omega))
 have OV:=zH ((Out.of (S:=fun j=>j=p∨w.heap.size≤j) HB.out).trans (hO.up (N:=w.heap.size)))
 obtain⟨Y,hY⟩:∃ V0,V0=X.alloc (.cells #[.string (bsB s),.string (bsB s),.int .i64 kind,.slice none 0 0] 40):=⟨_,rfl⟩
 have bY:Below X.heap.size X Y:=by rw[hY];exact ext_alloc (ext_refl _) _
 have kY:BkA Y X.heap.size [.string (bsB s),.string (bsB s),.int .i64 kind,.slice none 0 0]:=by rw[hY];exact BkA.new X [.string (bsB s),.string (bsB s),.int .i64 kind,.slice none 0 0] 40
 have HY:=zH hY
 have TY:=zH kY
 have RY:=zH (RV.out.on bY)
 have OY:=zH (OV.out.trans (Out.of bY))
 have hgV:gr<X.heap.size:=RV.out.lt
 have hRY:=hR.below bY
 obtain⟨dd,-,lpY,c3,-⟩:=hRY.deep
 obtain⟨j0,pl0,e0,hs0⟩:=hRY.st
 have CH:=zH (rhere_any p z T j0 0 pl0 k Y hs0)
 rw[← e0] at CH
 obtain⟨⟨kd,tn,ta,ts⟩,ht⟩:∃ t,t=hd z r:=⟨_,rfl⟩
 rw[← ht] at CH
 have HT:=zH ht
 have HRY:=zH hRY
 have fk:=fun w=>Tryz.tokKind7 kd tn ta (bsB ts) w
 clear hR hO hY bY kY NMC hRY e0 hs0 ht
 go_upto_region 5 with fail
 rw[← HY.out]
 clear HY
 obtain⟨gf,hgf⟩:∃ g,g=X.heap.size:=⟨_,rfl⟩
 rw[← hgf] at TY hgV ⊢
 clear hgf
 by_cases h2:kd=2
 ·subst h2
  have fk:=fun w=>Tryz.tokKind7 2 tn ta (bsB ts) w
  cases r with
  | nil=>exact absurd HT.out (by simp[hd,endTok])
  | cons t r2 =>
  obtain rfl:t=⟨2,tn,ta,ts⟩:=HT.out.symm
  have HRES:=zH (show res=.ok ⟨s,ts,kind,[]⟩ r2 by rw[← HQ.out];rfl)
  go_wp2_with fail
  refine CH.out.mono ?_
  rintro e0 V ⟨rfl,hb⟩
  have NM2:=zH (rname_yes p z k T ⟨2,tn,ta,ts⟩ r2 V (HRY.out.below hb) rfl)
  have HBV:=zH hb
  clear hb CH c3 lpY
  go_wp2_with fail
  refine NM2.out.mono ?_
  rintro e3 V3 ⟨rfl,hR3,hO3⟩
  have hgp:gf≠p:=by omega
  have T3:=zH ((TY.out.on HBV.out).outs hO3 hgp)
  have R3:=zH ((RY.out.on HBV.out).outs hO3 (by omega))
  have O3:=zH ((OY.out.trans (Out.of HBV.out)).trans (hO3.up (N:=w.heap.size)))
  have HR3:=zH hR3
  obtain⟨M,hM⟩:∃ V0,V0=V3.setCell ⟨gf,1,none⟩ (.string (bsB ts)):=⟨_,rfl⟩
  have oM:Out (fun j=>j=gf) V3 M:=by rw[hM];exact Out.set (S:=fun j=>j=gf) (a:=V3) ⟨gf,1,none⟩ _ rfl
  have TM:BkA M gf [.string (bsB s),.string (bsB ts),.int .i64 kind,.slice none 0 0]:=by
   rw[hM]
   refine⟨Nat.lt_of_lt_of_le T3.out.lt (Out.set (S:=fun j=>j=gf) (a:=V3) ⟨gf,1,none⟩ (.string (bsB ts)) rfl).size,fun k u hu=>?_,fun o=>by rw[World.frozen?_setCell];exact T3.out.fz o⟩
   match k,hu with
   | 0,hu=>simp at hu;subst hu;exact set_oth (T3.out.c 0 _ rfl) (by omega)
   | 1,hu=>simp at hu;subst hu;exact cell_set_self (T3.out.c 1 _ rfl)
   | 2,hu=>simp at hu;subst hu;exact set_oth (T3.out.c 2 _ rfl) (by omega)
   | 3,hu=>simp at hu;subst hu;exact set_oth (T3.out.c 3 _ rfl) (by omega)
   | k+4,hu=>simp at hu
  have TMH:=zH TM
  have RM:=zH (R3.out.outs oM (by omega))
  have OM:=zH (O3.out.trans (oM.mono fun j _ (hj:j=gf)=>.inr (by have:=HGR.out;omega)))
  have RR:=zH (HR3.out.outs oM (fun j (hj:j=gf)=>by omega))
  have c1:=T3.out.c 1 _ rfl
  have cl:=T3.out.lt
  have cf:=T3.out.fz
  have HM:=zH hM
  clear hM oM TM hR3 hO3 NM2
  go_upto_region 7 with fail
  rw[← HM.out]
  clear HM c1 cl cf
  have qx:=TMH.out
  have q2:=RM.out
  obtain⟨c0,c1,c2,c3⟩:=qx.c4_ rfl
  obtain⟨u0,u1,u2,u3⟩:=q2.c4_ rfl
  have ql:=qx.lt
  have zl:=q2.lt
  have zf:=q2.fz
  have o4:Out (fun j=>j=gr) M ((((M.setCell ⟨gr,0,none⟩ (.string (bsB s))).setCell ⟨gr,1,none⟩ (.string (bsB ts))).setCell ⟨gr,2,none⟩ (.int .i64 kind)).setCell ⟨gr,3,none⟩ (.slice none 0 0)):=out4r M gr _ _ _ _
  have HO:=zH (Out.down ((OM.out).trans (o4.mono fun j _ (hj:j=gr)=>.inr (by have:=HGR.out;omega))))
  have HRF:=zH (RR.out.outs o4 (fun j (hj:j=gr)=>by omega))
  clear qx q2 o4
  go_wp2_with fail
  exact bodyPost_ret (v:=.agg #[.string (bsB s),.string (bsB ts),.int .i64 kind,.slice none 0 0]) (by simp[results,Tryz.results31,go_sem,u0,u1,u2,u3]) rfl (RAns.mkOk HRES.out HO.out ⟨⟨(bsB s),(bsB ts),kind,none,0,0⟩,rfl⟩ ⟨⟨(bsB s),(bsB ts),kind,none,0,0⟩,rfl,⟨rfl,rfl,rfl,rfl,Nat.le_refl _,by rw[ExLP];trivial⟩⟩ HRF.out)
 ·have i2:((kd:Int) == 2)=false:=by rw[beq_eq_false_iff_ne];omega
  have HRES:=zH (show res=.ok ⟨s,s,kind,[]⟩ r by
   rw[← HQ.out]
   cases r with
   | nil=>rfl
   | cons t r2 =>
    have hk:¬ t.kd=2:=by intro e;apply h2;have h:=HT.out;simp only[hd] at h;rw[← e,← h]
    show (if t.kd=2 then _ else _)=_
    rw[if_neg hk])
  clear h2
  go_wp2_with fail
  refine CH.out.mono ?_
  rintro e0 V ⟨rfl,hb⟩
  have TV:=zH (TY.out.on hb)
  have RV2:=zH (RY.out.on hb)
  have OV2:=zH (OY.out.trans (Out.of hb))
  have RR:=zH (HRY.out.below hb)
  clear hb CH c3 lpY
  go_upto_region 7 with fail
  have qx:=TV.out
  have q2:=RV2.out
  obtain⟨c0,c1,c2,c3⟩:=qx.c4_ rfl
  obtain⟨u0,u1,u2,u3⟩:=q2.c4_ rfl
  have ql:=qx.lt
  have zl:=q2.lt
  have zf:=q2.fz
  have o4:Out (fun j=>j=gr) V ((((V.setCell ⟨gr,0,none⟩ (.string (bsB s))).setCell ⟨gr,1,none⟩ (.string (bsB s))).setCell ⟨gr,2,none⟩ (.int .i64 kind)).setCell ⟨gr,3,none⟩ (.slice none 0 0)):=out4r V gr _ _ _ _
  have HO:=zH (Out.down ((OV2.out).trans (o4.mono fun j _ (hj:j=gr)=>.inr (by have:=HGR.out;omega))))
  have HRF:=zH (RR.out.outs o4 (fun j (hj:j=gr)=>by omega))
  clear qx q2 o4
  go_wp2_with fail
  exact bodyPost_ret (v:=.agg #[.string (bsB s),.string (bsB s),.int .i64 kind,.slice none 0 0]) (by simp[results,Tryz.results31,go_sem,u0,u1,u2,u3]) rfl (RAns.mkOk HRES.out HO.out ⟨⟨(bsB s),(bsB s),kind,none,0,0⟩,rfl⟩ ⟨⟨(bsB s),(bsB s),kind,none,0,0⟩,rfl,⟨rfl,rfl,rfl,rfl,Nat.le_refl _,by rw[ExLP];trivial⟩⟩ HRF.out)
theorem rtable_any {p z k:Nat} {T:List Tok} (kind:Int) (ahead most:Nat) (b:Bool) (hb:b=decide (ahead=most)) (res:PR Fr) (w:World) (h:St0 w p z T k (bTable z kind ahead most) res):Calls Tryz.prog 31 #[.pointer (some ⟨p,0,none⟩),.int .i64 kind,.bool b] w (RAns FrV ShF p z T k res w):=by
 rcases h with ⟨l,hR,rfl⟩ |⟨er,a,rfl,hE⟩
 rotate_left
 ·cases b with
  | true=>exact rtable_errF p z k T kind w er a hE
  | false=>exact rtable_errN p z k T kind w er a hE
 by_cases hk:(hd z l).kd=2
 ·cases l with
  | nil=>exact absurd hk (by simp[hd,endTok])
  | cons t r =>
   obtain⟨kd,n,a,s⟩:=t
   obtain rfl:kd=2:=hk
   by_cases hm:ahead=most
   ·have e:bTable z kind ahead most (⟨2,n,a,s⟩ :: r)=.err 5 (hAt z (⟨2,n,a,s⟩ :: r)):=by rw[bTable,if_pos rfl,if_pos hm];rfl
    rw[e]
    obtain rfl:b=true:=by rw[hb];exact decide_eq_true hm
    exact rtable_roomF p z k T kind w _ hR rfl
   ·obtain rfl:b=false:=by rw[hb];exact decide_eq_false hm
    exact rtable_good p z k T kind w n a s r hR _ (by rw[bTable,if_pos rfl,if_neg hm])
 ·have e:bTable z kind ahead most l=.err 7 (hAt z l):=by
   cases l with
   | nil=>rfl
   | cons t r=>rw[bTable,if_neg (show ¬ t.kd=2 from hk)];rfl
  rw[e]
  cases b with
  | true=>exact rtable_kindF p z k T kind w l hR hk
  | false=>exact rtable_kindN p z k T kind w l hR hk
end Go.Proofs.YtapbglhjamddbaaGreatDoor
