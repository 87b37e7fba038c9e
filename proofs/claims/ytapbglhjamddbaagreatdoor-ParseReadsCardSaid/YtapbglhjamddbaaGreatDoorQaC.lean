/- A part of the proof. -/
import Derived.Test.YtapbglhjamddbaaGreatDoorQaB
import Derived.Test.YtapbglhjamddbaaGreatDoorHd
set_option linter.unusedSimpArgs false
set_option linter.unusedVariables false
namespace Go.Proofs.YtapbglhjamddbaaGreatDoor
open Go.RowKit Go.Deep
set_option maxRecDepth 100000
theorem ExV.outs {b p:Nat} {w w':World} {x:Ex} {v:Value} (h:ExV b w x v) (o:Out (fun j=>j=p) w w') (hb:p<b):ExV b w' x v:=by
 obtain⟨r,hv,hx⟩:=h
 exact⟨r,hv,ExMP.on o.size (fun j hj hl=>o.block j hl (fun (e:j=p)=>by omega)) (fun _ h _=>h) _ _ hx⟩
set_option maxHeartbeats 4000000 in
theorem or_err (p z k:Nat) (one:Rd Ex) (hs:Shr one) (h1:RdC 90 p z (k+1) one) (hk:k<60) (l:List Tok) (w:World) (h:PSt w p z l k) (er a0:Nat) (hr:bOr one l=.err er a0):Calls Tryz.prog 52 #[.pointer (some ⟨p,0,none⟩)] w (Ans ExV p z k (.err er a0) w):=by
 have lp:=h.lt
 have htk:=h.tk
 have b0:Below w.heap.size w (w.alloc (.cells zExpr.toArray 44)):=ext_alloc (ext_refl _) _
 have N0:=zH (BkA.new w zExpr 44)
 have HP0:=zH (h.below b0)
 have B0:=zH b0
 have HR:=zH hr
 have BY:=zH (begin_yes p z k l _ HP0.out hk)
 have AN:=zH (and_any p z (k+1) one hs h1)
 have HSH:=zH (chain_shr hs opsAnd)
 have hmf:=Tryz.mkFunc
 clear htk h b0 hr h1 hs
 go_enter_defers Tryz.func52,Tryz.ntmps52
 go_wp2_with fail
 refine BY.out.mono ?_
 rintro e V ⟨rfl,hP,hO⟩
 have HPV:=zH hP
 have NV:=zH (N0.out.outs hO (by omega))
 have PV:=zH ((Out.of (S:=fun j=>j=p∨w.heap.size≤j) B0.out).trans hO.up)
 have hwV:w.heap.size<V.heap.size:=NV.out.lt
 have b1:Below V.heap.size V (V.alloc (.cells #[.string ⟨#[111,114]⟩,.int .i64 16] 127)):=ext_alloc (ext_refl _) _
 have NO:=BkA.new V [.string ⟨#[111,114]⟩,.int .i64 16] 127
 have HOP:OpsM (V.alloc (.cells #[.string ⟨#[111,114]⟩,.int .i64 16] 127)) p V.heap.size opsOr:=by
  refine⟨NO.lt,by omega,fun j s op hj=>?_⟩
  match j,hj with
  | 0,hj=>cases hj;exact⟨NO.c 0 _ rfl,NO.c 1 _ rfl⟩
  | j+1,hj=>cases hj
 have CH:=zH (chain_any 78 (bAnd one) opsOr p z (k+1) V.heap.size 1 HSH.out.keep Tryz.enter_and AN.out (by decide) l _ (hP.below b1) HOP)
 have NW:=zH (NV.out.on b1)
 have PW:=zH (PV.out.trans (Out.of b1))
 clear hP hO b1 NO HOP BY
 go_wp2_with fail
 refine CH.out.mono ?_
 intro e Y hA
 obtain⟨rfl,hE,hO⟩:=hA.err HR.out
 go_wp2_with fail
 refine leaves_cons (f:=76) (args:=#[.pointer (some ⟨p,0,none⟩)]) (by simp) (by simp[go_sem]) ?_
 refine (end_err p _ _ hE).mono ?_
 rintro e2 u2 w2 ⟨rfl,rfl,hE2,hO2⟩
 simp only[Leaves,settle]
 exact Ans.mkErr rfl hE2 (Out.down ((PW.out.trans hO.up).trans hO2.up))
set_option maxHeartbeats 4000000 in
theorem or_ok (p z k:Nat) (one:Rd Ex) (hs:Shr one) (h1:RdC 90 p z (k+1) one) (hk:k<60) (l:List Tok) (w:World) (h:PSt w p z l k) (x:Ex) (r:List Tok) (hr:bOr one l=.ok x r):Calls Tryz.prog 52 #[.pointer (some ⟨p,0,none⟩)] w (Ans ExV p z k (.ok x r) w):=by
 have lp:=h.lt
 have htk:=h.tk
 have b0:Below w.heap.size w (w.alloc (.cells zExpr.toArray 44)):=ext_alloc (ext_refl _) _
 have N0:=zH (BkA.new w zExpr 44)
 have HP0:=zH (h.below b0)
 have B0:=zH b0
 have HR:=zH hr
 have BY:=zH (begin_yes p z k l _ HP0.out hk)
 have AN:=zH (and_any p z (k+1) one hs h1)
 have HSH:=zH (chain_shr hs opsAnd)
 have hmf:=Tryz.mkFunc
 clear htk h b0 hr h1 hs
 go_enter_defers Tryz.func52,Tryz.ntmps52
 go_wp2_with fail
 refine BY.out.mono ?_
 rintro e V ⟨rfl,hP,hO⟩
 have HPV:=zH hP
 have NV:=zH (N0.out.outs hO (by omega))
 have PV:=zH ((Out.of (S:=fun j=>j=p∨w.heap.size≤j) B0.out).trans hO.up)
 have hwV:w.heap.size<V.heap.size:=NV.out.lt
 have b1:Below V.heap.size V (V.alloc (.cells #[.string ⟨#[111,114]⟩,.int .i64 16] 127)):=ext_alloc (ext_refl _) _
 have NO:=BkA.new V [.string ⟨#[111,114]⟩,.int .i64 16] 127
 have HOP:OpsM (V.alloc (.cells #[.string ⟨#[111,114]⟩,.int .i64 16] 127)) p V.heap.size opsOr:=by
  refine⟨NO.lt,by omega,fun j s op hj=>?_⟩
  match j,hj with
  | 0,hj=>cases hj;exact⟨NO.c 0 _ rfl,NO.c 1 _ rfl⟩
  | j+1,hj=>cases hj
 have CH:=zH (chain_any 78 (bAnd one) opsOr p z (k+1) V.heap.size 1 HSH.out.keep Tryz.enter_and AN.out (by decide) l _ (hP.below b1) HOP)
 have NW:=zH (NV.out.on b1)
 have PW:=zH (PV.out.trans (Out.of b1))
 clear hP hO b1 NO HOP BY
 go_wp2_with fail
 refine CH.out.mono ?_
 intro e Y hA
 obtain⟨⟨v,rfl,⟨⟨fop,⟨fvk,fvn,fvs⟩,frel,fcol,fn,fs,fq,flen,fc⟩,rfl,hx⟩⟩,hP,hO⟩:=hA.ok HR.out
 have NY:=NW.out.outs hO (by omega)
 obtain⟨d0,d1,d2,d3,d4,d5,d6,d7,d8⟩:=NY.c9_ rfl
 have fzr:=NY.fz
 have ltr:=NY.lt
 have hz:=NW.out.lt
 have HF:=zH (fin9g (w:=w) (b:=w.heap.size) (gr:=w.heap.size) (Nat.le_refl _) lp hx (fun j hj=>⟨by omega,by omega⟩) hP (PW.out.trans hO.up))
 have NYH:=zH NY
 clear hA hx hP hO NY
 go_wp2_with fail
 refine leaves_cons (f:=76) (args:=#[.pointer (some ⟨p,0,none⟩)]) (by simp) (by simp[go_sem]) ?_
 refine (end_yes p z k _ _ _ HF.out.2.1).mono ?_
 rintro e2 u2 w2 ⟨rfl,rfl,hP2,hO2⟩
 have NM:=(NYH.out.set9 (.int .i64 fop) (.int .i64 fvk) (.int .i64 fvn) (.string fvs) (.int .i64 frel) (.int .i64 fcol) (.int .i64 fn) (.string fs) (.slice fq flen fc)).outs hO2 (by omega)
 obtain⟨m0,m1,m2,m3,m4,m5,m6,m7,m8⟩:=NM.c9_ rfl
 simp only[Leaves,settle]
 exact⟨(Value.agg #[.int .i64 fop,.int .i64 fvk,.int .i64 fvn,.string fvs,.int .i64 frel,.int .i64 fcol,.int .i64 fn,.string fs,.slice fq flen fc]),by simp[results,Tryz.results52,go_sem,m0,m1,m2,m3,m4,m5,m6,m7,m8],Ans.mkOk rfl (HF.out.1.outs hO2 lp) hP2 (HF.out.2.2.trans hO2)⟩
set_option maxHeartbeats 4000000 in
theorem not_y_err (p z k:Nat) (one:Rd Ex) (h1:RdC 90 p z (k+1) one) (hk:k<60) (t0:Tok) (l:List Tok) (w:World) (h:PSt w p z (t0 :: l) k) (hs:hSees kwNot (t0 :: l)=true) (er a0:Nat) (hr:one l=.err er a0):Calls Tryz.prog 90 #[.pointer (some ⟨p,0,none⟩)] w (Ans ExV p z k (.err er a0) w):=by
 have lp:=h.lt
 have htk:=h.tk
 have b0:Below w.heap.size w (w.alloc (.cells zExpr.toArray 44)):=ext_alloc (ext_refl _) _
 have N0:=zH (BkA.new w zExpr 44)
 have HP0:=zH (h.below b0)
 have B0:=zH b0
 have HR:=zH hr
 have HS:=zH hs
 have H1:=zH h1
 have BY:=zH (begin_yes p z k (t0 :: l) _ HP0.out hk)
 clear htk h b0 hr h1 hs
 go_enter_defers Tryz.func90,Tryz.ntmps90
 go_wp2_with fail
 refine BY.out.mono ?_
 rintro e V ⟨rfl,hP,hO⟩
 have HPV:=zH hP
 have NV:=zH (N0.out.outs hO (by omega))
 have PV:=zH ((Out.of (S:=fun j=>j=p∨w.heap.size≤j) B0.out).trans hO.up)
 have TK:=zH (take_yes p z (k+1) t0 l kwNot V hP HS.out)
 clear hP hO BY
 go_wp2_with fail
 refine TK.out.mono ?_
 rintro e W ⟨rfl,hP,hO⟩
 have NW:=zH (NV.out.outs hO (by omega))
 have PW:=zH (PV.out.trans hO.up)
 have CC:=zH (H1.out l W hP)
 clear hP hO TK
 have hwW:w.heap.size<W.heap.size:=NW.out.lt
 go_wp2_with fail
 refine CC.out.mono ?_
 intro e Y hA
 obtain⟨rfl,hE,hO⟩:=hA.err HR.out
 go_wp2_with fail
 refine leaves_cons (f:=76) (args:=#[.pointer (some ⟨p,0,none⟩)]) (by simp) (by simp[go_sem]) ?_
 refine (end_err p _ _ hE).mono ?_
 rintro e2 u2 w2 ⟨rfl,rfl,hE2,hO2⟩
 simp only[Leaves,settle]
 exact Ans.mkErr rfl hE2 (Out.down ((PW.out.trans hO.up).trans hO2.up))
set_option maxHeartbeats 4000000 in
theorem not_y_ok (p z k:Nat) (one:Rd Ex) (h1:RdC 90 p z (k+1) one) (hk:k<60) (t0:Tok) (l:List Tok) (w:World) (h:PSt w p z (t0 :: l) k) (hs:hSees kwNot (t0 :: l)=true) (x:Ex) (r:List Tok) (hr:one l=.ok x r):Calls Tryz.prog 90 #[.pointer (some ⟨p,0,none⟩)] w (Ans ExV p z k (.ok (exOne 17 x) r) w):=by
 have lp:=h.lt
 have htk:=h.tk
 have b0:Below w.heap.size w (w.alloc (.cells zExpr.toArray 44)):=ext_alloc (ext_refl _) _
 have N0:=zH (BkA.new w zExpr 44)
 have HP0:=zH (h.below b0)
 have B0:=zH b0
 have HR:=zH hr
 have HS:=zH hs
 have H1:=zH h1
 have BY:=zH (begin_yes p z k (t0 :: l) _ HP0.out hk)
 clear htk h b0 hr h1 hs
 go_enter_defers Tryz.func90,Tryz.ntmps90
 go_wp2_with fail
 refine BY.out.mono ?_
 rintro e V ⟨rfl,hP,hO⟩
 have HPV:=zH hP
 have NV:=zH (N0.out.outs hO (by omega))
 have PV:=zH ((Out.of (S:=fun j=>j=p∨w.heap.size≤j) B0.out).trans hO.up)
 have TK:=zH (take_yes p z (k+1) t0 l kwNot V hP HS.out)
 clear hP hO BY
 go_wp2_with fail
 refine TK.out.mono ?_
 rintro e W ⟨rfl,hP,hO⟩
 have NW:=zH (NV.out.outs hO (by omega))
 have PW:=zH (PV.out.trans hO.up)
 have CC:=zH (H1.out l W hP)
 clear hP hO TK
 have hwW:w.heap.size<W.heap.size:=NW.out.lt
 go_wp2_with fail
 refine CC.out.mono ?_
 intro e Y hA
 obtain⟨⟨v,rfl,⟨⟨fop,⟨fvk,fvn,fvs⟩,frel,fcol,fn,fs,fq,flen,fc⟩,rfl,hx⟩⟩,hP,hO⟩:=hA.ok HR.out
 have HPY:=zH hP
 have HX:=zH (ExMP.on (Q:=fun j=>w.heap.size<j) (Nat.le_refl _) (fun _ _ _=>rfl) (fun j hj _=>by omega) _ _ hx)
 have NYY:=zH (NW.out.outs hO (by omega))
 have PY:=zH (PW.out.trans hO.up)
 have hwY:w.heap.size<Y.heap.size:=NYY.out.lt
 clear hA hx hP hO
 go_wp2_with fail
 refine (apply_any 17 _ 1 1 _).mono ?_
 rintro e Z ⟨rfl,hb3⟩
 have NZ:=zH ((BkA.new Y [.int .i64 fop,.int .i64 fvk,.int .i64 fvn,.string fvs,.int .i64 frel,.int .i64 fcol,.int .i64 fn,.string fs,.slice fq flen fc] 44).on hb3)
 have b1:Below Y.heap.size Y (Y.alloc (.cells #[.int .i64 fop,.int .i64 fvk,.int .i64 fvn,.string fvs,.int .i64 frel,.int .i64 fcol,.int .i64 fn,.string fs,.slice fq flen fc] 44)):=ext_alloc (ext_refl _) _
 have HBZ:=zH (b1.trans (hb3.mono b1.size))
 have NY:=NYY.out.on HBZ.out
 obtain⟨d0,d1,d2,d3,d4,d5,d6,d7,d8⟩:=NY.c9_ rfl
 have fzr:=NY.fz
 have ltr:=NY.lt
 have HXZ:=one_ex (P:=fun j=>w.heap.size<j) (g:=w.heap.size) (re:=⟨fop,⟨fvk,fvn,fvs⟩,frel,fcol,fn,fs,fq,flen,fc⟩) (op:=17) (nb:=Y.heap.size) (M:=Z) HX.out (by omega) (fun j hj=>by omega) HBZ.out NZ.out.lt NZ.out.c (Out.refl _ _)
 have HF:=zH (fin9g (w:=w) (b:=w.heap.size) (gr:=w.heap.size) (re:=⟨17,zeroVal,0,0,0,⟨#[]⟩,some ⟨Y.heap.size,0,none⟩,1,1⟩) (Nat.le_refl _) lp HXZ (fun j hj=>⟨by omega,by omega⟩) (HPY.out.below HBZ.out) (PY.out.trans (Out.of HBZ.out)))
 have NYH:=zH NY
 clear hb3 b1 NY HXZ
 go_wp2_with fail
 refine leaves_cons (f:=76) (args:=#[.pointer (some ⟨p,0,none⟩)]) (by simp) (by simp[go_sem]) ?_
 refine (end_yes p z k _ _ _ HF.out.2.1).mono ?_
 rintro e2 u2 w2 ⟨rfl,rfl,hP2,hO2⟩
 have NM:=(NYH.out.set9 (.int .i64 17) (.int .i64 0) (.int .i64 0) (.string ⟨#[]⟩) (.int .i64 0) (.int .i64 0) (.int .i64 0) (.string ⟨#[]⟩) (.slice (some ⟨Y.heap.size,0,none⟩) 1 1)).outs hO2 (by omega)
 obtain⟨m0,m1,m2,m3,m4,m5,m6,m7,m8⟩:=NM.c9_ rfl
 simp only[Leaves,settle]
 exact⟨(Value.agg #[.int .i64 17,.int .i64 0,.int .i64 0,.string ⟨#[]⟩,.int .i64 0,.int .i64 0,.int .i64 0,.string ⟨#[]⟩,.slice (some ⟨Y.heap.size,0,none⟩) 1 1]),by simp[results,Tryz.results90,go_sem,m0,m1,m2,m3,m4,m5,m6,m7,m8],Ans.mkOk rfl (HF.out.1.outs hO2 lp) hP2 (HF.out.2.2.trans hO2)⟩
set_option maxHeartbeats 4000000 in
theorem not_n_err (p z k:Nat) (one:Rd Ex) (h1:RdC 106 p z (k+1) one) (hk:k<60) (l:List Tok) (w:World) (h:PSt w p z l k) (hs:hSees kwNot l=false) (er a0:Nat) (hr:one l=.err er a0):Calls Tryz.prog 90 #[.pointer (some ⟨p,0,none⟩)] w (Ans ExV p z k (.err er a0) w):=by
 have lp:=h.lt
 have htk:=h.tk
 have b0:Below w.heap.size w (w.alloc (.cells zExpr.toArray 44)):=ext_alloc (ext_refl _) _
 have N0:=zH (BkA.new w zExpr 44)
 have HP0:=zH (h.below b0)
 have B0:=zH b0
 have HR:=zH hr
 have HS:=zH hs
 have H1:=zH h1
 have BY:=zH (begin_yes p z k l _ HP0.out hk)
 clear htk h b0 hr h1 hs
 go_enter_defers Tryz.func90,Tryz.ntmps90
 go_wp2_with fail
 refine BY.out.mono ?_
 rintro e V ⟨rfl,hP,hO⟩
 have HPV:=zH hP
 have NV:=zH (N0.out.outs hO (by omega))
 have PV:=zH ((Out.of (S:=fun j=>j=p∨w.heap.size≤j) B0.out).trans hO.up)
 have TK:=zH (take_no p z (k+1) l kwNot V hP HS.out)
 clear hP hO BY
 go_wp2_with fail
 refine TK.out.mono ?_
 rintro e W ⟨rfl,hb⟩
 have NW:=zH (NV.out.on hb)
 have PW:=zH (PV.out.trans (Out.of hb))
 have CC:=zH (H1.out l W (HPV.out.below hb))
 clear hb TK
 have hwW:w.heap.size<W.heap.size:=NW.out.lt
 go_wp2_with fail
 refine CC.out.mono ?_
 intro e Y hA
 obtain⟨rfl,hE,hO⟩:=hA.err HR.out
 go_wp2_with fail
 refine leaves_cons (f:=76) (args:=#[.pointer (some ⟨p,0,none⟩)]) (by simp) (by simp[go_sem]) ?_
 refine (end_err p _ _ hE).mono ?_
 rintro e2 u2 w2 ⟨rfl,rfl,hE2,hO2⟩
 simp only[Leaves,settle]
 exact Ans.mkErr rfl hE2 (Out.down ((PW.out.trans hO.up).trans hO2.up))
set_option maxHeartbeats 4000000 in
theorem not_n_ok (p z k:Nat) (one:Rd Ex) (h1:RdC 106 p z (k+1) one) (hk:k<60) (l:List Tok) (w:World) (h:PSt w p z l k) (hs:hSees kwNot l=false) (x:Ex) (r:List Tok) (hr:one l=.ok x r):Calls Tryz.prog 90 #[.pointer (some ⟨p,0,none⟩)] w (Ans ExV p z k (.ok x r) w):=by
 have lp:=h.lt
 have htk:=h.tk
 have b0:Below w.heap.size w (w.alloc (.cells zExpr.toArray 44)):=ext_alloc (ext_refl _) _
 have N0:=zH (BkA.new w zExpr 44)
 have HP0:=zH (h.below b0)
 have B0:=zH b0
 have HR:=zH hr
 have HS:=zH hs
 have H1:=zH h1
 have BY:=zH (begin_yes p z k l _ HP0.out hk)
 clear htk h b0 hr h1 hs
 go_enter_defers Tryz.func90,Tryz.ntmps90
 go_wp2_with fail
 refine BY.out.mono ?_
 rintro e V ⟨rfl,hP,hO⟩
 have HPV:=zH hP
 have NV:=zH (N0.out.outs hO (by omega))
 have PV:=zH ((Out.of (S:=fun j=>j=p∨w.heap.size≤j) B0.out).trans hO.up)
 have TK:=zH (take_no p z (k+1) l kwNot V hP HS.out)
 clear hP hO BY
 go_wp2_with fail
 refine TK.out.mono ?_
 rintro e W ⟨rfl,hb⟩
 have NW:=zH (NV.out.on hb)
 have PW:=zH (PV.out.trans (Out.of hb))
 have CC:=zH (H1.out l W (HPV.out.below hb))
 clear hb TK
 have hwW:w.heap.size<W.heap.size:=NW.out.lt
 go_wp2_with fail
 refine CC.out.mono ?_
 intro e Y hA
 obtain⟨⟨v,rfl,⟨⟨fop,⟨fvk,fvn,fvs⟩,frel,fcol,fn,fs,fq,flen,fc⟩,rfl,hx⟩⟩,hP,hO⟩:=hA.ok HR.out
 have NY:=NW.out.outs hO (by omega)
 obtain⟨d0,d1,d2,d3,d4,d5,d6,d7,d8⟩:=NY.c9_ rfl
 have fzr:=NY.fz
 have ltr:=NY.lt
 have HF:=zH (fin9g (w:=w) (b:=w.heap.size) (gr:=w.heap.size) (Nat.le_refl _) lp hx (fun j hj=>⟨by omega,by omega⟩) hP (PW.out.trans hO.up))
 have NYH:=zH NY
 clear hA hx hP hO NY
 go_wp2_with fail
 refine leaves_cons (f:=76) (args:=#[.pointer (some ⟨p,0,none⟩)]) (by simp) (by simp[go_sem]) ?_
 refine (end_yes p z k _ _ _ HF.out.2.1).mono ?_
 rintro e2 u2 w2 ⟨rfl,rfl,hP2,hO2⟩
 have NM:=(NYH.out.set9 (.int .i64 fop) (.int .i64 fvk) (.int .i64 fvn) (.string fvs) (.int .i64 frel) (.int .i64 fcol) (.int .i64 fn) (.string fs) (.slice fq flen fc)).outs hO2 (by omega)
 obtain⟨m0,m1,m2,m3,m4,m5,m6,m7,m8⟩:=NM.c9_ rfl
 simp only[Leaves,settle]
 exact⟨(Value.agg #[.int .i64 fop,.int .i64 fvk,.int .i64 fvn,.string fvs,.int .i64 frel,.int .i64 fcol,.int .i64 fn,.string fs,.slice fq flen fc]),by simp[results,Tryz.results90,go_sem,m0,m1,m2,m3,m4,m5,m6,m7,m8],Ans.mkOk rfl (HF.out.1.outs hO2 lp) hP2 (HF.out.2.2.trans hO2)⟩
set_option maxHeartbeats 4000000 in
theorem sign_y_err (p z k:Nat) (one:Rd Ex) (h1:RdC 137 p z (k+1) one) (hk:k<60) (t0:Tok) (l:List Tok) (w:World) (h:PSt w p z (t0 :: l) k) (hs:hSees [45] (t0 :: l)=true) (er a0:Nat) (hr:one l=.err er a0):Calls Tryz.prog 137 #[.pointer (some ⟨p,0,none⟩)] w (Ans ExV p z k (.err er a0) w):=by
 have lp:=h.lt
 have htk:=h.tk
 have b0:Below w.heap.size w (w.alloc (.cells zExpr.toArray 44)):=ext_alloc (ext_refl _) _
 have N0:=zH (BkA.new w zExpr 44)
 have HP0:=zH (h.below b0)
 have B0:=zH b0
 have HR:=zH hr
 have HS:=zH hs
 have H1:=zH h1
 have BY:=zH (begin_yes p z k (t0 :: l) _ HP0.out hk)
 clear htk h b0 hr h1 hs
 go_enter_defers Tryz.func137,Tryz.ntmps137
 go_wp2_with fail
 refine BY.out.mono ?_
 rintro e V ⟨rfl,hP,hO⟩
 have HPV:=zH hP
 have NV:=zH (N0.out.outs hO (by omega))
 have PV:=zH ((Out.of (S:=fun j=>j=p∨w.heap.size≤j) B0.out).trans hO.up)
 have TK:=zH (take_yes p z (k+1) t0 l [45] V hP HS.out)
 clear hP hO BY
 go_wp2_with fail
 refine TK.out.mono ?_
 rintro e W ⟨rfl,hP,hO⟩
 have NW:=zH (NV.out.outs hO (by omega))
 have PW:=zH (PV.out.trans hO.up)
 have CC:=zH (H1.out l W hP)
 clear hP hO TK
 have hwW:w.heap.size<W.heap.size:=NW.out.lt
 go_wp2_with fail
 refine CC.out.mono ?_
 intro e Y hA
 obtain⟨rfl,hE,hO⟩:=hA.err HR.out
 go_wp2_with fail
 refine leaves_cons (f:=76) (args:=#[.pointer (some ⟨p,0,none⟩)]) (by simp) (by simp[go_sem]) ?_
 refine (end_err p _ _ hE).mono ?_
 rintro e2 u2 w2 ⟨rfl,rfl,hE2,hO2⟩
 simp only[Leaves,settle]
 exact Ans.mkErr rfl hE2 (Out.down ((PW.out.trans hO.up).trans hO2.up))
set_option maxHeartbeats 4000000 in
theorem sign_y_ok (p z k:Nat) (one:Rd Ex) (h1:RdC 137 p z (k+1) one) (hk:k<60) (t0:Tok) (l:List Tok) (w:World) (h:PSt w p z (t0 :: l) k) (hs:hSees [45] (t0 :: l)=true) (x:Ex) (r:List Tok) (hr:one l=.ok x r):Calls Tryz.prog 137 #[.pointer (some ⟨p,0,none⟩)] w (Ans ExV p z k (.ok (exOne 8 x) r) w):=by
 have lp:=h.lt
 have htk:=h.tk
 have b0:Below w.heap.size w (w.alloc (.cells zExpr.toArray 44)):=ext_alloc (ext_refl _) _
 have N0:=zH (BkA.new w zExpr 44)
 have HP0:=zH (h.below b0)
 have B0:=zH b0
 have HR:=zH hr
 have HS:=zH hs
 have H1:=zH h1
 have BY:=zH (begin_yes p z k (t0 :: l) _ HP0.out hk)
 clear htk h b0 hr h1 hs
 go_enter_defers Tryz.func137,Tryz.ntmps137
 go_wp2_with fail
 refine BY.out.mono ?_
 rintro e V ⟨rfl,hP,hO⟩
 have HPV:=zH hP
 have NV:=zH (N0.out.outs hO (by omega))
 have PV:=zH ((Out.of (S:=fun j=>j=p∨w.heap.size≤j) B0.out).trans hO.up)
 have TK:=zH (take_yes p z (k+1) t0 l [45] V hP HS.out)
 clear hP hO BY
 go_wp2_with fail
 refine TK.out.mono ?_
 rintro e W ⟨rfl,hP,hO⟩
 have NW:=zH (NV.out.outs hO (by omega))
 have PW:=zH (PV.out.trans hO.up)
 have CC:=zH (H1.out l W hP)
 clear hP hO TK
 have hwW:w.heap.size<W.heap.size:=NW.out.lt
 go_wp2_with fail
 refine CC.out.mono ?_
 intro e Y hA
 obtain⟨⟨v,rfl,⟨⟨fop,⟨fvk,fvn,fvs⟩,frel,fcol,fn,fs,fq,flen,fc⟩,rfl,hx⟩⟩,hP,hO⟩:=hA.ok HR.out
 have HPY:=zH hP
 have HX:=zH (ExMP.on (Q:=fun j=>w.heap.size<j) (Nat.le_refl _) (fun _ _ _=>rfl) (fun j hj _=>by omega) _ _ hx)
 have NYY:=zH (NW.out.outs hO (by omega))
 have PY:=zH (PW.out.trans hO.up)
 have hwY:w.heap.size<Y.heap.size:=NYY.out.lt
 clear hA hx hP hO
 go_wp2_with fail
 refine (apply_any 8 _ 1 1 _).mono ?_
 rintro e Z ⟨rfl,hb3⟩
 have NZ:=zH ((BkA.new Y [.int .i64 fop,.int .i64 fvk,.int .i64 fvn,.string fvs,.int .i64 frel,.int .i64 fcol,.int .i64 fn,.string fs,.slice fq flen fc] 44).on hb3)
 have b1:Below Y.heap.size Y (Y.alloc (.cells #[.int .i64 fop,.int .i64 fvk,.int .i64 fvn,.string fvs,.int .i64 frel,.int .i64 fcol,.int .i64 fn,.string fs,.slice fq flen fc] 44)):=ext_alloc (ext_refl _) _
 have HBZ:=zH (b1.trans (hb3.mono b1.size))
 have NY:=NYY.out.on HBZ.out
 obtain⟨d0,d1,d2,d3,d4,d5,d6,d7,d8⟩:=NY.c9_ rfl
 have fzr:=NY.fz
 have ltr:=NY.lt
 have HXZ:=one_ex (P:=fun j=>w.heap.size<j) (g:=w.heap.size) (re:=⟨fop,⟨fvk,fvn,fvs⟩,frel,fcol,fn,fs,fq,flen,fc⟩) (op:=8) (nb:=Y.heap.size) (M:=Z) HX.out (by omega) (fun j hj=>by omega) HBZ.out NZ.out.lt NZ.out.c (Out.refl _ _)
 have HF:=zH (fin9g (w:=w) (b:=w.heap.size) (gr:=w.heap.size) (re:=⟨8,zeroVal,0,0,0,⟨#[]⟩,some ⟨Y.heap.size,0,none⟩,1,1⟩) (Nat.le_refl _) lp HXZ (fun j hj=>⟨by omega,by omega⟩) (HPY.out.below HBZ.out) (PY.out.trans (Out.of HBZ.out)))
 have NYH:=zH NY
 clear hb3 b1 NY HXZ
 go_wp2_with fail
 refine leaves_cons (f:=76) (args:=#[.pointer (some ⟨p,0,none⟩)]) (by simp) (by simp[go_sem]) ?_
 refine (end_yes p z k _ _ _ HF.out.2.1).mono ?_
 rintro e2 u2 w2 ⟨rfl,rfl,hP2,hO2⟩
 have NM:=(NYH.out.set9 (.int .i64 8) (.int .i64 0) (.int .i64 0) (.string ⟨#[]⟩) (.int .i64 0) (.int .i64 0) (.int .i64 0) (.string ⟨#[]⟩) (.slice (some ⟨Y.heap.size,0,none⟩) 1 1)).outs hO2 (by omega)
 obtain⟨m0,m1,m2,m3,m4,m5,m6,m7,m8⟩:=NM.c9_ rfl
 simp only[Leaves,settle]
 exact⟨(Value.agg #[.int .i64 8,.int .i64 0,.int .i64 0,.string ⟨#[]⟩,.int .i64 0,.int .i64 0,.int .i64 0,.string ⟨#[]⟩,.slice (some ⟨Y.heap.size,0,none⟩) 1 1]),by simp[results,Tryz.results137,go_sem,m0,m1,m2,m3,m4,m5,m6,m7,m8],Ans.mkOk rfl (HF.out.1.outs hO2 lp) hP2 (HF.out.2.2.trans hO2)⟩
set_option maxHeartbeats 4000000 in
theorem sign_n_err (p z k:Nat) (one:Rd Ex) (h1:RdC 143 p z (k+1) one) (hk:k<60) (l:List Tok) (w:World) (h:PSt w p z l k) (hs:hSees [45] l=false) (er a0:Nat) (hr:one l=.err er a0):Calls Tryz.prog 137 #[.pointer (some ⟨p,0,none⟩)] w (Ans ExV p z k (.err er a0) w):=by
 have lp:=h.lt
 have htk:=h.tk
 have b0:Below w.heap.size w (w.alloc (.cells zExpr.toArray 44)):=ext_alloc (ext_refl _) _
 have N0:=zH (BkA.new w zExpr 44)
 have HP0:=zH (h.below b0)
 have B0:=zH b0
 have HR:=zH hr
 have HS:=zH hs
 have H1:=zH h1
 have BY:=zH (begin_yes p z k l _ HP0.out hk)
 clear htk h b0 hr h1 hs
 go_enter_defers Tryz.func137,Tryz.ntmps137
 go_wp2_with fail
 refine BY.out.mono ?_
 rintro e V ⟨rfl,hP,hO⟩
 have HPV:=zH hP
 have NV:=zH (N0.out.outs hO (by omega))
 have PV:=zH ((Out.of (S:=fun j=>j=p∨w.heap.size≤j) B0.out).trans hO.up)
 have TK:=zH (take_no p z (k+1) l [45] V hP HS.out)
 clear hP hO BY
 go_wp2_with fail
 refine TK.out.mono ?_
 rintro e W ⟨rfl,hb⟩
 have NW:=zH (NV.out.on hb)
 have PW:=zH (PV.out.trans (Out.of hb))
 have CC:=zH (H1.out l W (HPV.out.below hb))
 clear hb TK
 have hwW:w.heap.size<W.heap.size:=NW.out.lt
 go_wp2_with fail
 refine CC.out.mono ?_
 intro e Y hA
 obtain⟨rfl,hE,hO⟩:=hA.err HR.out
 go_wp2_with fail
 refine leaves_cons (f:=76) (args:=#[.pointer (some ⟨p,0,none⟩)]) (by simp) (by simp[go_sem]) ?_
 refine (end_err p _ _ hE).mono ?_
 rintro e2 u2 w2 ⟨rfl,rfl,hE2,hO2⟩
 simp only[Leaves,settle]
 exact Ans.mkErr rfl hE2 (Out.down ((PW.out.trans hO.up).trans hO2.up))
set_option maxHeartbeats 4000000 in
theorem sign_n_ok (p z k:Nat) (one:Rd Ex) (h1:RdC 143 p z (k+1) one) (hk:k<60) (l:List Tok) (w:World) (h:PSt w p z l k) (hs:hSees [45] l=false) (x:Ex) (r:List Tok) (hr:one l=.ok x r):Calls Tryz.prog 137 #[.pointer (some ⟨p,0,none⟩)] w (Ans ExV p z k (.ok x r) w):=by
 have lp:=h.lt
 have htk:=h.tk
 have b0:Below w.heap.size w (w.alloc (.cells zExpr.toArray 44)):=ext_alloc (ext_refl _) _
 have N0:=zH (BkA.new w zExpr 44)
 have HP0:=zH (h.below b0)
 have B0:=zH b0
 have HR:=zH hr
 have HS:=zH hs
 have H1:=zH h1
 have BY:=zH (begin_yes p z k l _ HP0.out hk)
 clear htk h b0 hr h1 hs
 go_enter_defers Tryz.func137,Tryz.ntmps137
 go_wp2_with fail
 refine BY.out.mono ?_
 rintro e V ⟨rfl,hP,hO⟩
 have HPV:=zH hP
 have NV:=zH (N0.out.outs hO (by omega))
 have PV:=zH ((Out.of (S:=fun j=>j=p∨w.heap.size≤j) B0.out).trans hO.up)
 have TK:=zH (take_no p z (k+1) l [45] V hP HS.out)
 clear hP hO BY
 go_wp2_with fail
 refine TK.out.mono ?_
 rintro e W ⟨rfl,hb⟩
 have NW:=zH (NV.out.on hb)
 have PW:=zH (PV.out.trans (Out.of hb))
 have CC:=zH (H1.out l W (HPV.out.below hb))
 clear hb TK
 have hwW:w.heap.size<W.heap.size:=NW.out.lt
 go_wp2_with fail
 refine CC.out.mono ?_
 intro e Y hA
 obtain⟨⟨v,rfl,⟨⟨fop,⟨fvk,fvn,fvs⟩,frel,fcol,fn,fs,fq,flen,fc⟩,rfl,hx⟩⟩,hP,hO⟩:=hA.ok HR.out
 have NY:=NW.out.outs hO (by omega)
 obtain⟨d0,d1,d2,d3,d4,d5,d6,d7,d8⟩:=NY.c9_ rfl
 have fzr:=NY.fz
 have ltr:=NY.lt
 have HF:=zH (fin9g (w:=w) (b:=w.heap.size) (gr:=w.heap.size) (Nat.le_refl _) lp hx (fun j hj=>⟨by omega,by omega⟩) hP (PW.out.trans hO.up))
 have NYH:=zH NY
 clear hA hx hP hO NY
 go_wp2_with fail
 refine leaves_cons (f:=76) (args:=#[.pointer (some ⟨p,0,none⟩)]) (by simp) (by simp[go_sem]) ?_
 refine (end_yes p z k _ _ _ HF.out.2.1).mono ?_
 rintro e2 u2 w2 ⟨rfl,rfl,hP2,hO2⟩
 have NM:=(NYH.out.set9 (.int .i64 fop) (.int .i64 fvk) (.int .i64 fvn) (.string fvs) (.int .i64 frel) (.int .i64 fcol) (.int .i64 fn) (.string fs) (.slice fq flen fc)).outs hO2 (by omega)
 obtain⟨m0,m1,m2,m3,m4,m5,m6,m7,m8⟩:=NM.c9_ rfl
 simp only[Leaves,settle]
 exact⟨(Value.agg #[.int .i64 fop,.int .i64 fvk,.int .i64 fvn,.string fvs,.int .i64 frel,.int .i64 fcol,.int .i64 fn,.string fs,.slice fq flen fc]),by simp[results,Tryz.results137,go_sem,m0,m1,m2,m3,m4,m5,m6,m7,m8],Ans.mkOk rfl (HF.out.1.outs hO2 lp) hP2 (HF.out.2.2.trans hO2)⟩
set_option maxHeartbeats 4000000 in
theorem or_full (p z:Nat) (l:List Tok) (w:World) (h:PSt w p z l 60):Calls Tryz.prog 52 #[.pointer (some ⟨p,0,none⟩)] w (Ans ExV p z 60 (PR.err 5 (hAt z l)) w):=by
 have lp:=h.lt
 have htk:=h.tk
 have b0:Below w.heap.size w (w.alloc (.cells zExpr.toArray 44)):=ext_alloc (ext_refl _) _
 have N0:=zH (BkA.new w zExpr 44)
 have HP0:=zH (h.below b0)
 have B0:=zH b0
 have BN:=zH (begin_no p z l _ HP0.out)
 clear htk h b0
 go_enter_defers Tryz.func52,Tryz.ntmps52
 go_wp2_with fail
 refine BN.out.mono ?_
 rintro e V ⟨rfl,hb⟩
 go_wp2_with fail
 have hA:Ans ExV p z 60 (PR.err 5 (hAt z l)) w (faultE 5 (hAt z l)) V:=Ans.mkErr rfl (HP0.out.below hb).pe ((Out.of B0.out).trans (Out.of hb))
 exact hA
set_option maxHeartbeats 4000000 in
theorem not_full (p z:Nat) (l:List Tok) (w:World) (h:PSt w p z l 60):Calls Tryz.prog 90 #[.pointer (some ⟨p,0,none⟩)] w (Ans ExV p z 60 (PR.err 5 (hAt z l)) w):=by
 have lp:=h.lt
 have htk:=h.tk
 have b0:Below w.heap.size w (w.alloc (.cells zExpr.toArray 44)):=ext_alloc (ext_refl _) _
 have N0:=zH (BkA.new w zExpr 44)
 have HP0:=zH (h.below b0)
 have B0:=zH b0
 have BN:=zH (begin_no p z l _ HP0.out)
 clear htk h b0
 go_enter_defers Tryz.func90,Tryz.ntmps90
 go_wp2_with fail
 refine BN.out.mono ?_
 rintro e V ⟨rfl,hb⟩
 go_wp2_with fail
 have hA:Ans ExV p z 60 (PR.err 5 (hAt z l)) w (faultE 5 (hAt z l)) V:=Ans.mkErr rfl (HP0.out.below hb).pe ((Out.of B0.out).trans (Out.of hb))
 exact hA
set_option maxHeartbeats 4000000 in
theorem sign_full (p z:Nat) (l:List Tok) (w:World) (h:PSt w p z l 60):Calls Tryz.prog 137 #[.pointer (some ⟨p,0,none⟩)] w (Ans ExV p z 60 (PR.err 5 (hAt z l)) w):=by
 have lp:=h.lt
 have htk:=h.tk
 have b0:Below w.heap.size w (w.alloc (.cells zExpr.toArray 44)):=ext_alloc (ext_refl _) _
 have N0:=zH (BkA.new w zExpr 44)
 have HP0:=zH (h.below b0)
 have B0:=zH b0
 have BN:=zH (begin_no p z l _ HP0.out)
 clear htk h b0
 go_enter_defers Tryz.func137,Tryz.ntmps137
 go_wp2_with fail
 refine BN.out.mono ?_
 rintro e V ⟨rfl,hb⟩
 go_wp2_with fail
 have hA:Ans ExV p z 60 (PR.err 5 (hAt z l)) w (faultE 5 (hAt z l)) V:=Ans.mkErr rfl (HP0.out.below hb).pe ((Out.of B0.out).trans (Out.of hb))
 exact hA
structure DevC (p z k:Nat) (L:Lev):Prop where
 o:RdC 52 p z k L.o
 n:RdC 90 p z k L.n
 s:RdC 137 p z k L.s
theorem dev_any (p z:Nat):∀ (n k:Nat),n+k=60→DevC p z k (lev z n)
 | 0,k,hk=>by
  obtain rfl:k=60:=by omega
  exact⟨fun l w h=>or_full p z l w h,fun l w h=>not_full p z l w h,fun l w h=>sign_full p z l w h⟩
 | n+1,k,hk=>by
  have D:=dev_any p z n (k+1) (by omega)
  have S:=lev_shr z n
  have hk6:k<60:=by omega
  refine⟨fun l w h=>?_,fun l w h=>?_,fun l w h=>?_⟩
  ·cases hr:bOr (lev z n).n l with
   | err er a0=>exact (or_err p z k _ S.n D.n hk6 l w h er a0 hr).mono fun e w' hA=>by rw[show (lev z (n+1)).o l=.err er a0 from hr];exact hA
   | ok x r=>exact (or_ok p z k _ S.n D.n hk6 l w h x r hr).mono fun e w' hA=>by rw[show (lev z (n+1)).o l=.ok x r from hr];exact hA
  ·cases hs:hSees kwNot l with
   | true =>
    obtain⟨t0,l1,rfl,-,-⟩:=sees_cons hs
    have e:(lev z (n+1)).n (t0 :: l1)=((lev z n).n l1).map (exOne 17):=if_pos hs
    rw[e]
    cases hr:(lev z n).n l1 with
    | err er a0=>exact not_y_err p z k _ D.n hk6 t0 l1 w h hs er a0 hr
    | ok x r=>exact not_y_ok p z k _ D.n hk6 t0 l1 w h hs x r hr
   | false =>
    have e:(lev z (n+1)).n l=bTest z (lev z n).s l:=if_neg (by rw[hs];decide)
    rw[e]
    have T:=test_any p z (k+1) (lev z n).s (sum_any p z (k+1) _ (chain_shr S.s _) (prod_any p z (k+1) _ S.s D.s))
    cases hr:bTest z (lev z n).s l with
    | err er a0=>exact not_n_err p z k _ T hk6 l w h hs er a0 hr
    | ok x r=>exact not_n_ok p z k _ T hk6 l w h hs x r hr
  ·cases hs:hSees [45] l with
   | true =>
    obtain⟨t0,l1,rfl,-,-⟩:=sees_cons hs
    have e:(lev z (n+1)).s (t0 :: l1)=((lev z n).s l1).map (exOne 8):=if_pos hs
    rw[e]
    cases hr:(lev z n).s l1 with
    | err er a0=>exact sign_y_err p z k _ D.s hk6 t0 l1 w h hs er a0 hr
    | ok x r=>exact sign_y_ok p z k _ D.s hk6 t0 l1 w h hs x r hr
   | false =>
    have e:(lev z (n+1)).s l=bAtom z (lev z n).o l:=if_neg (by rw[hs];decide)
    rw[e]
    have T:=atom_any p z (k+1) (lev z n).o S.o D.o
    cases hr:bAtom z (lev z n).o l with
    | err er a0=>exact sign_n_err p z k _ T hk6 l w h hs er a0 hr
    | ok x r=>exact sign_n_ok p z k _ T hk6 l w h hs x r hr
section
variable {α:Type} {cells:α→List Value} {sz:Nat}
theorem wp_append_at {w:World} {ops:Array Oper} {rest:List Oper} {o:Oper} {a:Act} {Q:Exit→Act→World→Prop} (hgd:o.guard=none) (s x:Operand) (T E:TypeId) (ho:o.op=.call { callee:=.builtin .append,args:=#[s,x],argTypes:=#[T,T] })
  (hT:Tryz.prog.underlying T=some (.slice E)) (z:Value) (bytes:Nat) (hI:(Tryz.prog.info? E).map (fun i=>(i.zero,i.size,i.bytes))=some (some z,sz,bytes)) (hzs:z.cells.size=sz) (h0:0<sz)
  (hcl:∀ x:α,(cells x).length=sz) (h1:∀ (x:α) (u:Value),u∈cells x→u.oneCell'=true)
  (base:Nat) (v:Value) (l:List α) (hs:a.eval s=v) (hown:OwnF w base E sz cells v l) (p:Option Addr) (n c:Nat) (m:List α) (hn:n=m.length) (hx:a.eval x=.slice p n c)
  (lo hi:Nat) (hR:ArrA lo hi p sz m (fun g o x=>∀ (k:Nat) u,(cells x)[k]?=some u→w.cell? ⟨g,o+k,none⟩=some u)) (hlen:l.length+m.length≤maxLen) (hbytes:(l.length+m.length)*bytes≤140737488355328) (hbase:base≤w.heap.size)
  (h:∀ v' w',OwnF w' base E sz cells v' (l++m)→Below base w w'→Out (fun k=>v.ownBlock=some k) w w'→(v'.ownBlock=v.ownBlock∨v'.ownBlock=some w.heap.size)→wpList Tryz.prog ops Q rest (a.put o.dst v') w'):wpList Tryz.prog ops Q (o :: rest) a w:=by
 obtain⟨v',w',hr,h2,h3,h4,h5⟩:=run_append_flat w T E o.type hT z bytes hI hzs h0 hcl h1 base v l hown p n c m hn lo hi hR hlen hbytes hbase
 refine wpList_plain hgd fun K hK=>?_
 unfold Oper.wp execOp
 simp only[ho,resolve,invoke,builtin,Sem.run_bind,Sem.run_pure,Result.andThen_ok,List.map_toArray,List.map_cons,List.map_nil,hs,hx,hr]
 exact hK _ _ (h v' w' h2 h3 h4 h5)
end
structure El (α ρ:Type) where
 E:TypeId
 sz:Nat
 cells:ρ→List Value
 rel:World→(Nat→Prop)→α→ρ→Prop
structure El.Ok {α ρ:Type} (T:El α ρ):Prop where
 len:∀ r,(T.cells r).length=T.sz
 on:∀ {w w':World} {P Q:Nat→Prop},w.heap.size≤w'.heap.size→(∀ g,P g→g<w.heap.size→w'.heap[g]?=w.heap[g]?)→(∀ g,P g→g<w.heap.size→Q g)→∀ x r,T.rel w P x r→T.rel w' Q x r
def LsM {α ρ:Type} (T:El α ρ) (w:World) (P:Nat→Prop) (q:Option Addr) (L:List α):Prop :=
 ∀ (j:Nat) (x:α),L[j]?=some x→∃ g off r,q=some ⟨g,off,none⟩∧g<w.heap.size∧P g∧T.rel w P x r∧∀ (k:Nat) u,(T.cells r)[k]?=some u→w.cell? ⟨g,off+j*T.sz+k,none⟩=some u
theorem LsM.on {α ρ:Type} {T:El α ρ} (hT:T.Ok) {w w':World} {P Q:Nat→Prop} (hs:w.heap.size≤w'.heap.size) (hP:∀ g,P g→g<w.heap.size→w'.heap[g]?=w.heap[g]?) (hQ:∀ g,P g→g<w.heap.size→Q g) {q:Option Addr} {L:List α} (h:LsM T w P q L):LsM T w' Q q L:=fun j x hx=>by
 obtain⟨g,off,r,e,hg,hp,hr,hc⟩:=h j x hx
 exact⟨g,off,r,e,Nat.lt_of_lt_of_le hg hs,hQ g hp hg,hT.on hs hP hQ x r hr,fun k u hu=>(World.cell?_of_block (w:=w) (hP g hp hg)).trans (hc k u hu)⟩
theorem LsM.nil {α ρ:Type} {T:El α ρ} {w:World} {P:Nat→Prop} {q:Option Addr}:LsM T w P q ([]:List α):=fun j x hx=>by simp at hx
structure RawI where
 agg:Int
 e:RawE
structure RawK where
 col:Int
 desc:Bool
structure RawF where
 table:ByteArray
 alias:ByteArray
 kind:Int
 q:Option Addr
 n:Nat
 c:Nat
structure Sl where
 q:Option Addr
 n:Nat
 c:Nat
structure RawS where
 d:Bool
 i:Sl
 f:Sl
 w:Sl
 g:Sl
abbrev RawI.cells (r:RawI):List Value:=.int .i64 r.agg :: r.e.cells
abbrev RawK.cells (r:RawK):List Value:=[.int .i64 r.col,.bool r.desc]
abbrev RawF.cells (r:RawF):List Value:=[.string r.table,.string r.alias,.int .i64 r.kind,.slice r.q r.n r.c]
abbrev RawS.cells (r:RawS):List Value:=[.bool r.d,.slice r.i.q r.i.n r.i.c,.slice r.f.q r.f.n r.f.c,.slice r.w.q r.w.n r.w.c,.slice r.g.q r.g.n r.g.c]
def elE:El Ex RawE:=⟨44,9,RawE.cells,fun w P x r=>ExMP w P x r.cells⟩
def elI:El It RawI:=⟨46,10,RawI.cells,fun w P x r=>r.agg=x.agg∧ExMP w P x.e r.e.cells⟩
def elK:El Ky RawK:=⟨72,2,RawK.cells,fun _ _ x r=>r.col=x.col∧r.desc=x.desc⟩
def elF:El Fr RawF:=⟨40,4,RawF.cells,fun w P x r=>r.table=bsB x.table∧r.alias=bsB x.alias∧r.kind=x.kind∧r.n=x.on.length∧r.n≤r.c∧ExLP w P r.q 0 x.on⟩
def elS:El Sel RawS:=⟨38,5,RawS.cells,fun w P x r=>r.d=x.distinct∧(r.i.n=x.items.length∧r.i.n≤r.i.c∧LsM elI w P r.i.q x.items)∧(r.f.n=x.froms.length∧r.f.n≤r.f.c∧LsM elF w P r.f.q x.froms)∧(r.w.n=x.where_.length∧r.w.n≤r.w.c∧ExLP w P r.w.q 0 x.where_)∧(r.g.n=x.group.length∧r.g.n≤r.g.c∧ExLP w P r.g.q 0 x.group)⟩
theorem elE_ok:elE.Ok:=⟨fun _=>rfl,fun hs hP hQ x r h=>ExMP.on hs hP hQ x _ h⟩
theorem elI_ok:elI.Ok:=⟨fun _=>rfl,fun hs hP hQ x r h=>⟨h.1,ExMP.on hs hP hQ x.e _ h.2⟩⟩
theorem elK_ok:elK.Ok:=⟨fun _=>rfl,fun _ _ _ _ _ h=>h⟩
theorem elF_ok:elF.Ok:=⟨fun _=>rfl,fun hs hP hQ x r h=>⟨h.1,h.2.1,h.2.2.1,h.2.2.2.1,h.2.2.2.2.1,ExLP.on hs hP hQ _ _ _ h.2.2.2.2.2⟩⟩
theorem elS_ok:elS.Ok:=⟨fun _=>rfl,fun hs hP hQ x r h=>⟨h.1,⟨h.2.1.1,h.2.1.2.1,h.2.1.2.2.on elI_ok hs hP hQ⟩,⟨h.2.2.1.1,h.2.2.1.2.1,h.2.2.1.2.2.on elF_ok hs hP hQ⟩,⟨h.2.2.2.1.1,h.2.2.2.1.2.1,ExLP.on hs hP hQ _ _ _ h.2.2.2.1.2.2⟩,⟨h.2.2.2.2.1,h.2.2.2.2.2.1,ExLP.on hs hP hQ _ _ _ h.2.2.2.2.2.2⟩⟩⟩
theorem RawE.one (r:RawE) (u:Value) (h:u∈r.cells):u.oneCell'=true:=RawE.cells_one r u h
theorem RawI.one (r:RawI) (u:Value) (h:u∈r.cells):u.oneCell'=true:=by
 rcases List.mem_cons.1 h with rfl | h
 ·rfl
 ·exact RawE.cells_one r.e u h
theorem RawK.one (r:RawK) (u:Value) (h:u∈r.cells):u.oneCell'=true:=by
 simp only[List.mem_cons,List.not_mem_nil,or_false] at h
 rcases h with rfl | rfl <;> rfl
theorem RawF.one (r:RawF) (u:Value) (h:u∈r.cells):u.oneCell'=true:=by
 simp only[List.mem_cons,List.not_mem_nil,or_false] at h
 rcases h with rfl | rfl | rfl | rfl <;> rfl
theorem RawS.one (r:RawS) (u:Value) (h:u∈r.cells):u.oneCell'=true:=by
 simp only[List.mem_cons,List.not_mem_nil,or_false] at h
 rcases h with rfl | rfl | rfl | rfl | rfl <;> rfl
theorem LsM.ex {w:World} {P:Nat→Prop} {q:Option Addr} {L:List Ex} (h:LsM elE w P q L):ExLP w P q 0 L:=ExLP.of fun j x hx=>by
 obtain⟨g,off,r,e,hg,hp,hr,hc⟩:=h j x hx
 exact⟨g,off,r.cells,e,hg,hp,hr,fun k u hu=>by rw[Nat.zero_add];exact hc k u hu⟩
structure LsO {α ρ:Type} (T:El α ρ) (w:World) (b:Nat) (v:Value) (L:List α):Prop where
 own:∃ K:List ρ,OwnF w b T.E T.sz T.cells v K∧K.length=L.length∧∀ (j:Nat) (r:ρ) (x:α),K[j]?=some r→L[j]?=some x→T.rel w (fun g=>b≤g∧v.ownBlock≠some g) x r
theorem LsO.read {α ρ:Type} {T:El α ρ} (hT:T.Ok) {w:World} {b:Nat} {v:Value} {L:List α} (h:LsO T w b v L):∃ q c,v=.slice q L.length c∧L.length≤c∧c≤9223372036854775807∧LsM T w (fun g=>b≤g) q L:=by
 obtain⟨K,h1,h2,h3⟩:=h.own
 obtain⟨q,c,e,h4,h5,-,h6⟩:=OwnF.arr hT.len h1
 refine⟨q,c,by rw[← h2];exact e,by rw[← h2];exact h4,h5,fun j x hx=>?_⟩
 have hj:=(List.getElem?_eq_some_iff.1 hx).1
 obtain⟨g,off,hq,hb,hg,hc⟩:=h6 j (by omega)
 have hr:K[j]?=some (K[j]'(by omega)):=List.getElem?_eq_getElem (by omega)
 exact⟨g,off,_,hq,hg,hb,hT.on (Nat.le_refl _) (fun _ _ _=>rfl) (fun _ h _=>h.1) _ _ (h3 j _ x hr hx),hc j _ hr⟩
def LsV {α ρ:Type} (T:El α ρ) (b:Nat) (w:World) (L:List α) (v:Value):Prop:=∃ q c,v=.slice q L.length c∧L.length≤c∧c≤9223372036854775807∧LsM T w (fun g=>b≤g) q L
theorem LsO.outs {α ρ:Type} {T:El α ρ} (hT:T.Ok) {S:Nat→Prop} {w w':World} {b:Nat} {v:Value} {L:List α} (h:LsO T w b v L) (o:Out S w w') (hS:∀ j,S j→j<w.heap.size→¬ b≤j):LsO T w' b v L:=by
 obtain⟨K,h1,h2,h3⟩:=h.own
 refine⟨K,h1.kept (S:=fun j=>S j∧j<w.heap.size) ⟨o.os,o.tape,o.output,o.size,fun k hk hn=>o.block k hk fun e=>hn ⟨e,hk⟩⟩ (fun k hk e=>hS k hk.1 hk.2 (h1.lt k e).1),h2,fun j r x hr hx=>?_⟩
 exact hT.on o.size (fun g hg hl=>o.block g hl fun e=>hS g e hl hg.1) (fun _ h _=>h) _ _ (h3 j r x hr hx)
theorem LsO.first {α ρ:Type} {T:El α ρ} (hT:T.Ok) {w:World} {b:Nat} {x:α} {r:ρ} (hr:T.rel w (fun g=>b≤g) x r) (hb:b≤w.heap.size):LsO T (w.alloc (.cells (T.cells r).toArray T.E)) b (.slice (some ⟨w.heap.size,0,none⟩) 1 1) [x]:=by
 have hl:=hT.len r
 refine⟨[r],⟨by simp[hl],.inr ⟨w.heap.size,1,(T.cells r).toArray,rfl,hb,heap_alloc_new w _,Nat.le_refl _,by decide,by simp[hl],by simp;exact List.take_of_length_le (by omega)⟩⟩,rfl,fun j r' y hr' hy=>?_⟩
 have hj:j=0:=by have:=(List.getElem?_eq_some_iff.1 hr').1;simp at this;omega
 subst hj
 simp only[List.getElem?_cons_zero,Option.some.injEq] at hr' hy
 subst hr' hy
 have b1:Below w.heap.size w (w.alloc (.cells (T.cells r).toArray T.E)):=ext_alloc (ext_refl _) _
 exact hT.on b1.size (fun g _ hl=>b1.block g hl) (fun g hg hl=>⟨hg,by simp[Value.ownBlock];omega⟩) _ _ hr
theorem LsO.grown {α ρ:Type} {T:El α ρ} (hT:T.Ok) {W U V:World} {b:Nat} {v v':Value} {L:List α} {K:List ρ} {x:α} {r:ρ} (hKL:K.length=L.length) (hK:∀ (j:Nat) (r:ρ) (x:α),K[j]?=some r→L[j]?=some x→T.rel U (fun g=>b≤g∧v.ownBlock≠some g) x r) (hv:∀ k,v.ownBlock=some k→k<W.heap.size) (hx:T.rel U (fun g=>W.heap.size≤g) x r) (hbW:b≤W.heap.size) (hWU:W.heap.size≤U.heap.size)
  (ho:OwnF V b T.E T.sz T.cells v' (K++[r])) (hO:Out (fun k=>v.ownBlock=some k) U V) (hat:v'.ownBlock=v.ownBlock∨v'.ownBlock=some U.heap.size):LsO T V b v' (L++[x]):=by
 refine⟨K++[r],ho,by rw[List.length_append,List.length_append,hKL];rfl,fun j r' y hr' hy=>?_⟩
 by_cases hj:j<K.length
 ·rw[List.getElem?_append_left hj] at hr'
  rw[List.getElem?_append_left (by rw[← hKL];exact hj)] at hy
  refine hT.on hO.size (fun g hg hl=>hO.block g hl hg.2) (fun g hg hl=>⟨hg.1,?_⟩) _ _ (hK j r' y hr' hy)
  rcases hat with h | h
  ·rw[h];exact hg.2
  ·rw[h];simp;omega
 ·have hj2:j - K.length=0:=by have:=(List.getElem?_eq_some_iff.1 hr').1;simp at this;omega
  rw[List.getElem?_append_right (by omega),hj2] at hr'
  rw[List.getElem?_append_right (by rw[← hKL];omega),← hKL,hj2] at hy
  simp only[List.getElem?_cons_zero,Option.some.injEq] at hr' hy
  subst hr' hy
  refine hT.on hO.size (fun g hg hl=>hO.block g hl fun e=>by have:=hv g e;omega) (fun g hg hl=>⟨by omega,?_⟩) _ _ hx
  rcases hat with h | h
  ·rw[h]
   intro e
   have:=hv g e
   omega
  ·rw[h];simp;omega
def ItV (b:Nat) (w:World) (x:It) (v:Value):Prop:=∃ r:RawI,v=.agg #[.int .i64 r.agg,.int .i64 r.e.op,.int .i64 r.e.v.k,.int .i64 r.e.v.n,.string r.e.v.s,.int .i64 r.e.rel,.int .i64 r.e.col,.int .i64 r.e.n,.string r.e.s,.slice r.e.q r.e.len r.e.c]∧elI.rel w (fun g=>b≤g) x r
def KyV (b:Nat) (w:World) (x:Ky) (v:Value):Prop:=∃ r:RawK,v=.agg #[.int .i64 r.col,.bool r.desc]∧elK.rel w (fun g=>b≤g) x r
theorem Tryz.info_item:(Tryz.prog.info? 46).map (fun i=>(i.zero,i.size,i.bytes))=some (some (.agg #[.int .i64 0,.int .i64 0,.int .i64 0,.int .i64 0,.string ⟨#[]⟩,.int .i64 0,.int .i64 0,.int .i64 0,.string ⟨#[]⟩,.slice none 0 0]),10,112):=by kernel_rfl
set_option maxHeartbeats 8000000 in
theorem list_item_any (f:FuncId) (one:Rd It) (p z k:Nat) (hk:Keep one) (hen:∀ (args:Array Value) (w:World),(callFunc f args).run Tryz.prog w=.ok (.enter f args) w) (h1:∀ (l:List Tok) (w:World),PSt w p z l k→Calls Tryz.prog f #[.pointer (some ⟨p,0,none⟩)] w (Ans ItV p z k (one l) w))
  (l:List Tok) (w:World) (h:PSt w p z l k):Calls Tryz.prog 49 #[.pointer (some ⟨p,0,none⟩),.func (.func f) #[.pointer (some ⟨p,0,none⟩)] #[]] w (Ans (LsV elI) p z k (listP z one l) w):=by
 have C1:=zH (h1 l w h)
 have H1:=zH h1
 have HK:=zH hk
 have lp:=h.lt
 have H:=zH h
 clear h1 hk h
 cases hr:one l with
 | err er a =>
  have HR:=zH (show listP z one l=.err er a by unfold listP;rw[hr];rfl)
  have HR1:=zH hr
  clear hr
  go_enter Tryz.func49,Tryz.ntmps49
  go_wp2_with fail
  refine C1.out.mono ?_
  intro e V hA
  obtain⟨rfl,hE,hO⟩:=hA.err HR1.out
  go_wp2_with fail
  exact⟨rfl,Ans.mkErr HR.out hE hO⟩
 | ok x r =>
  have HR:=zH (show listP z one l=listW z one [x] r by unfold listP;rw[hr];rfl)
  have HR1:=zH hr
  clear hr
  go_enter Tryz.func49,Tryz.ntmps49
  go_wp2_with fail
  refine C1.out.mono ?_
  intro e V hA
  obtain⟨⟨v,rfl,⟨⟨fagg,⟨fop,⟨fvk,fvn,fvs⟩,frel,fcol,fn,fs,fq,flen,fc⟩⟩,rfl,hx⟩⟩,hP,hO⟩:=hA.ok HR1.out
  have b1:Below V.heap.size V (V.alloc (.cells #[.int .i64 fagg,.int .i64 fop,.int .i64 fvk,.int .i64 fvn,.string fvs,.int .i64 frel,.int .i64 fcol,.int .i64 fn,.string fs,.slice fq flen fc] 46)):=ext_alloc (ext_refl _) _
  have LO:=zH (LsO.first elI_ok (r:=⟨fagg,⟨fop,⟨fvk,fvn,fvs⟩,frel,fcol,fn,fs,fq,flen,fc⟩⟩) (x:=x) (w:=V) (b:=w.heap.size) hx hO.size)
  have HPU:=zH (hP.below b1)
  have PU:=zH (hO.trans (Out.of b1))
  clear hx hP hO b1 hA
  go_wp2_with fail
  go_loopw [5] (fun v5 wr=>∃ (L:List It) (l':List Tok),Hid (listW z one L l'=listP z one l)∧Hid (LsO elI wr w.heap.size v5 L)∧Hid (PSt wr p z l' k)∧L.length≤8∧Hid (Out (fun j=>j=p) w wr)) (fun _ wr=>restLen wr p)
  case atStart=>exact⟨[x],r,HR.out.symm,LO.out,HPU.out,(by simp),PU.out⟩
  case round =>
   obtain⟨L,l',hQ,hL,hP,h8,hO⟩:=hrel
   obtain⟨W,hW⟩:∃ W,W=wr:=⟨_,rfl⟩
   rw[← hW] at hL hP hO ⊢
   have HQ:=zH hQ.out
   have HL:=zH hL.out
   have HP:=zH hP.out
   have HO:=zH hO.out
   obtain⟨K,hK1,hK2,hK3⟩:=HL.out.own
   obtain⟨q,c,rfl,-⟩:=OwnF.arr elI_ok.len hK1
   obtain⟨n,hn⟩:∃ n,n=K.length:=⟨_,rfl⟩
   have HN:=zH hn
   rw[← hn] at hK1 hK3 HL ⊢
   have HK1:=zH hK1
   have HK2:=zH hK2
   have HK3:=zH hK3
   have hpW:=HP.out.lt
   have hwW:=HO.out.size
   clear hW hQ hL hP hO hK1 hK2 hK3 hn C1 LO HPU PU
   cases hc:hSees [44] l' with
   | false =>
    have TK:=zH (take_no p z k l' [44] W HP.out hc)
    have HRES:=zH (show listP z one l=.ok L l' by rw[← HQ.out,listW_none hc])
    clear hc
    go_wp2_with fail
    refine TK.out.mono ?_
    rintro e X ⟨rfl,hb⟩
    have HLX:=zH ((HL.out.outs elI_ok (Out.of (S:=fun _=>False) hb) (fun _ h _=>h.elim)).read elI_ok)
    have HPX:=zH (HP.out.below hb)
    have HOX:=zH (HO.out.trans (Out.of hb))
    clear hb TK
    go_wp2_with fail
    exact bodyPost_ret (v:=.slice q n c) (by simp[results,Tryz.results49,go_sem]) rfl (Ans.mkOk HRES.out HLX.out HPX.out HOX.out)
   | true =>
    obtain⟨t,l2,rfl,-,-⟩:=sees_cons hc
    have TK:=zH (take_yes p z k t l2 [44] W HP.out hc)
    have HC:=zH hc
    clear hc
    go_wp2_with fail
    refine TK.out.mono ?_
    rintro e X ⟨rfl,hPX,hOX⟩
    have HPX:=zH hPX
    have HOX:=zH hOX
    have POX:=zH (HO.out.trans hOX)
    have hWX:=hOX.size
    have CX:=zH (H1.out l2 X hPX)
    clear hPX hOX TK
    by_cases hn8:n=8
    ·have e8:((n:Int) == 8)=true:=by rw[beq_iff_eq];omega
     have HRES:=zH (show listP z one l=.err 5 (hAt z l2) by rw[← HQ.out,listW_full HC.out (by rw[← HK2.out,← HN.out];exact hn8)];rfl)
     go_wp2_with fail
     refine (wrong_any p z k l2 5 X HPX.out).mono ?_
     rintro e Y ⟨rfl,hb⟩
     go_wp2_with fail
     exact⟨rfl,Ans.mkErr HRES.out (HPX.out.below hb).pe (POX.out.trans (Out.of hb))⟩
    ·have e8:((n:Int) == 8)=false:=by rw[beq_eq_false_iff_ne];omega
     have hL8:L.length≠8:=by rw[← HK2.out,← HN.out];exact hn8
     have hn7:n≤7:=by have h1:=HN.out;have h2:=HK2.out;omega
     cases hr2:one l2 with
     | err er a =>
      have HR2:=zH hr2
      have HRES:=zH (show listP z one l=.err er a by rw[← HQ.out,listW_err HC.out hL8 hr2])
      clear hr2
      go_wp2_with fail
      refine CX.out.mono ?_
      intro e Y hA
      obtain⟨rfl,hE,hO⟩:=hA.err HR2.out
      go_wp2_with fail
      exact⟨rfl,Ans.mkErr HRES.out hE (POX.out.trans hO)⟩
     | ok y r' =>
      have HR2:=zH hr2
      have HQ2:=zH (show listW z one (L++[y]) r'=listP z one l by rw[← HQ.out,listW_some HK.out HC.out hL8 hr2])
      have HLEN:=zH (show r'.length≤l2.length from HK.out.len hr2)
      clear hr2
      go_wp2_with fail
      refine CX.out.mono ?_
      intro e Y hA
      obtain⟨⟨v,rfl,⟨⟨gagg,⟨gop,⟨gvk,gvn,gvs⟩,grel,gcol,gn,gs,gq,glen,gc⟩⟩,rfl,hy⟩⟩,hPY,hOY⟩:=hA.ok HR2.out
      have OWY:=zH (HOX.out.trans hOY)
      have POY:=zH (POX.out.trans hOY)
      have b1:Below Y.heap.size Y (Y.alloc (.cells #[.int .i64 gagg,.int .i64 gop,.int .i64 gvk,.int .i64 gvn,.string gvs,.int .i64 grel,.int .i64 gcol,.int .i64 gn,.string gs,.slice gq glen gc] 46)):=ext_alloc (ext_refl _) _
      have HB1:=zH b1
      have HPU:=zH (hPY.below b1)
      have HY:=zH ((elI_ok.on b1.size (fun j _ hl=>b1.block j hl) (fun _ h _=>h) y ⟨gagg,⟨gop,⟨gvk,gvn,gvs⟩,grel,gcol,gn,gs,gq,glen,gc⟩⟩ hy))
      have OWU:=zH (OWY.out.trans (Out.of b1))
      have PUU:=zH (POY.out.trans (Out.of b1))
      have hWU:=OWU.out.size
      have hXU:=Nat.le_trans hOY.size b1.size
      have OWN:=zH (HK1.out.kept (S:=fun j=>j=p) OWU.out (fun j hj e=>by have:=(HK1.out.lt j e).1;omega))
      have RELS:=zH (fun (j:Nat) (r:RawI) (x:It) hr hx=>elI_ok.on OWU.out.size (fun g hg hl=>OWU.out.block g hl (fun (e:g=p)=>by have:=hg.1;omega)) (fun _ h _=>h) x r (HK3.out j r x hr hx))
      clear hy hPY hOY hA b1
      go_wp2_with (at_builtin;go_must (refine wp_append_at rfl _ _ 34 46 rfl Tryz.underlying34 _ 112 Tryz.info_item rfl (by omega) elI_ok.len RawI.one w.heap.size _ K rfl OWN.out _ 1 1 [⟨gagg,⟨gop,⟨gvk,gvn,gvs⟩,grel,gcol,gn,gs,gq,glen,gc⟩⟩] rfl rfl 0 _ (one_block elI_ok.len 46 #[.int .i64 gagg,.int .i64 gop,.int .i64 gvk,.int .i64 gvn,.string gvs,.int .i64 grel,.int .i64 gcol,.int .i64 gn,.string gs,.slice gq glen gc] ⟨gagg,⟨gop,⟨gvk,gvn,gvs⟩,grel,gcol,gn,gs,gq,glen,gc⟩⟩ rfl _ rfl) ?kr ?ka ?kb ?_))
      case kr=>rw[← HN.out];unfold maxLen;simp;omega
      case ka=>rw[← HN.out];simp;omega
      case kb=>exact Nat.le_trans hwW hWU
      intro v' w' ON bN oN hat
      have hlt:=fun k (e:(Value.slice q n c).ownBlock=some k)=>(HK1.out.lt k e).2
      have GR:=LsO.grown elI_ok (W:=W) (U:=Y.alloc (.cells #[.int .i64 gagg,.int .i64 gop,.int .i64 gvk,.int .i64 gvn,.string gvs,.int .i64 grel,.int .i64 gcol,.int .i64 gn,.string gs,.slice gq glen gc] 46)) HK2.out RELS.out hlt (elI_ok.on (Nat.le_refl _) (fun _ _ _=>rfl) (fun g hg _=>Nat.le_trans hWX hg) y _ HY.out) hwW hWU ON oN (by rcases hat with h | h;exact .inl h;exact .inr (by simpa using h))
      have NB:∀ j,(Value.slice q n c).ownBlock=some j→p<j:=fun j e=>by have:=(HK1.out.lt j e).1;omega
      have PN:=zH (HPU.out.outs oN NB)
      have ONw:=zH (Out.down ((PUU.out.up (N:=w.heap.size)).trans (oN.mono fun j _ hj=>.inr (HK1.out.lt j hj).1)))
      have GR:=zH GR
      have hm1:=PN.out.restLen
      have hm2:=HP.out.restLen
      have hl8:(L++[y]).length≤8:=by have h1:=HN.out;have h2:=HK2.out;simp;omega
      clear ON bN oN hat NB hlt
      go_wp2_with fail
      go_roundw
      case rel=>exact⟨L++[y],r',HQ2.out,GR.out,PN.out,hl8,ONw.out⟩
      case measure=>exact lt_of_eq_of_lt hm1 (by rw[hm2];have:=HLEN.out;simp only[List.length_cons];omega)
theorem Tryz.info_expr:(Tryz.prog.info? 44).map (fun i=>(i.zero,i.size,i.bytes))=some (some (.agg #[.int .i64 0,.int .i64 0,.int .i64 0,.string ⟨#[]⟩,.int .i64 0,.int .i64 0,.int .i64 0,.string ⟨#[]⟩,.slice none 0 0]),9,104):=by kernel_rfl
set_option maxHeartbeats 8000000 in
theorem list_expr_any (f:FuncId) (one:Rd Ex) (p z k:Nat) (hk:Keep one) (hen:∀ (args:Array Value) (w:World),(callFunc f args).run Tryz.prog w=.ok (.enter f args) w) (h1:∀ (l:List Tok) (w:World),PSt w p z l k→Calls Tryz.prog f #[.pointer (some ⟨p,0,none⟩)] w (Ans ExV p z k (one l) w))
  (l:List Tok) (w:World) (h:PSt w p z l k):Calls Tryz.prog 53 #[.pointer (some ⟨p,0,none⟩),.func (.func f) #[.pointer (some ⟨p,0,none⟩)] #[]] w (Ans (LsV elE) p z k (listP z one l) w):=by
 have C1:=zH (h1 l w h)
 have H1:=zH h1
 have HK:=zH hk
 have lp:=h.lt
 have H:=zH h
 clear h1 hk h
 cases hr:one l with
 | err er a =>
  have HR:=zH (show listP z one l=.err er a by unfold listP;rw[hr];rfl)
  have HR1:=zH hr
  clear hr
  go_enter Tryz.func53,Tryz.ntmps53
  go_wp2_with fail
  refine C1.out.mono ?_
  intro e V hA
  obtain⟨rfl,hE,hO⟩:=hA.err HR1.out
  go_wp2_with fail
  exact⟨rfl,Ans.mkErr HR.out hE hO⟩
 | ok x r =>
  have HR:=zH (show listP z one l=listW z one [x] r by unfold listP;rw[hr];rfl)
  have HR1:=zH hr
  clear hr
  go_enter Tryz.func53,Tryz.ntmps53
  go_wp2_with fail
  refine C1.out.mono ?_
  intro e V hA
  obtain⟨⟨v,rfl,⟨⟨fop,⟨fvk,fvn,fvs⟩,frel,fcol,fn,fs,fq,flen,fc⟩,rfl,hx⟩⟩,hP,hO⟩:=hA.ok HR1.out
  have b1:Below V.heap.size V (V.alloc (.cells #[.int .i64 fop,.int .i64 fvk,.int .i64 fvn,.string fvs,.int .i64 frel,.int .i64 fcol,.int .i64 fn,.string fs,.slice fq flen fc] 44)):=ext_alloc (ext_refl _) _
  have LO:=zH (LsO.first elE_ok (r:=⟨fop,⟨fvk,fvn,fvs⟩,frel,fcol,fn,fs,fq,flen,fc⟩) (x:=x) (w:=V) (b:=w.heap.size) hx hO.size)
  have HPU:=zH (hP.below b1)
  have PU:=zH (hO.trans (Out.of b1))
  clear hx hP hO b1 hA
  go_wp2_with fail
  go_loopw [5] (fun v5 wr=>∃ (L:List Ex) (l':List Tok),Hid (listW z one L l'=listP z one l)∧Hid (LsO elE wr w.heap.size v5 L)∧Hid (PSt wr p z l' k)∧L.length≤8∧Hid (Out (fun j=>j=p) w wr)) (fun _ wr=>restLen wr p)
  case atStart=>exact⟨[x],r,HR.out.symm,LO.out,HPU.out,(by simp),PU.out⟩
  case round =>
   obtain⟨L,l',hQ,hL,hP,h8,hO⟩:=hrel
   obtain⟨W,hW⟩:∃ W,W=wr:=⟨_,rfl⟩
   rw[← hW] at hL hP hO ⊢
   have HQ:=zH hQ.out
   have HL:=zH hL.out
   have HP:=zH hP.out
   have HO:=zH hO.out
   obtain⟨K,hK1,hK2,hK3⟩:=HL.out.own
   obtain⟨q,c,rfl,-⟩:=OwnF.arr elE_ok.len hK1
   obtain⟨n,hn⟩:∃ n,n=K.length:=⟨_,rfl⟩
   have HN:=zH hn
   rw[← hn] at hK1 hK3 HL ⊢
   have HK1:=zH hK1
   have HK2:=zH hK2
   have HK3:=zH hK3
   have hpW:=HP.out.lt
   have hwW:=HO.out.size
   clear hW hQ hL hP hO hK1 hK2 hK3 hn C1 LO HPU PU
   cases hc:hSees [44] l' with
   | false =>
    have TK:=zH (take_no p z k l' [44] W HP.out hc)
    have HRES:=zH (show listP z one l=.ok L l' by rw[← HQ.out,listW_none hc])
    clear hc
    go_wp2_with fail
    refine TK.out.mono ?_
    rintro e X ⟨rfl,hb⟩
    have HLX:=zH ((HL.out.outs elE_ok (Out.of (S:=fun _=>False) hb) (fun _ h _=>h.elim)).read elE_ok)
    have HPX:=zH (HP.out.below hb)
    have HOX:=zH (HO.out.trans (Out.of hb))
    clear hb TK
    go_wp2_with fail
    exact bodyPost_ret (v:=.slice q n c) (by simp[results,Tryz.results53,go_sem]) rfl (Ans.mkOk HRES.out HLX.out HPX.out HOX.out)
   | true =>
    obtain⟨t,l2,rfl,-,-⟩:=sees_cons hc
    have TK:=zH (take_yes p z k t l2 [44] W HP.out hc)
    have HC:=zH hc
    clear hc
    go_wp2_with fail
    refine TK.out.mono ?_
    rintro e X ⟨rfl,hPX,hOX⟩
    have HPX:=zH hPX
    have HOX:=zH hOX
    have POX:=zH (HO.out.trans hOX)
    have hWX:=hOX.size
    have CX:=zH (H1.out l2 X hPX)
    clear hPX hOX TK
    by_cases hn8:n=8
    ·have e8:((n:Int) == 8)=true:=by rw[beq_iff_eq];omega
     have HRES:=zH (show listP z one l=.err 5 (hAt z l2) by rw[← HQ.out,listW_full HC.out (by rw[← HK2.out,← HN.out];exact hn8)];rfl)
     go_wp2_with fail
     refine (wrong_any p z k l2 5 X HPX.out).mono ?_
     rintro e Y ⟨rfl,hb⟩
     go_wp2_with fail
     exact⟨rfl,Ans.mkErr HRES.out (HPX.out.below hb).pe (POX.out.trans (Out.of hb))⟩
    ·have e8:((n:Int) == 8)=false:=by rw[beq_eq_false_iff_ne];omega
     have hL8:L.length≠8:=by rw[← HK2.out,← HN.out];exact hn8
     have hn7:n≤7:=by have h1:=HN.out;have h2:=HK2.out;omega
     cases hr2:one l2 with
     | err er a =>
      have HR2:=zH hr2
      have HRES:=zH (show listP z one l=.err er a by rw[← HQ.out,listW_err HC.out hL8 hr2])
      clear hr2
      go_wp2_with fail
      refine CX.out.mono ?_
      intro e Y hA
      obtain⟨rfl,hE,hO⟩:=hA.err HR2.out
      go_wp2_with fail
      exact⟨rfl,Ans.mkErr HRES.out hE (POX.out.trans hO)⟩
     | ok y r' =>
      have HR2:=zH hr2
      have HQ2:=zH (show listW z one (L++[y]) r'=listP z one l by rw[← HQ.out,listW_some HK.out HC.out hL8 hr2])
      have HLEN:=zH (show r'.length≤l2.length from HK.out.len hr2)
      clear hr2
      go_wp2_with fail
      refine CX.out.mono ?_
      intro e Y hA
      obtain⟨⟨v,rfl,⟨⟨gop,⟨gvk,gvn,gvs⟩,grel,gcol,gn,gs,gq,glen,gc⟩,rfl,hy⟩⟩,hPY,hOY⟩:=hA.ok HR2.out
      have OWY:=zH (HOX.out.trans hOY)
      have POY:=zH (POX.out.trans hOY)
      have b1:Below Y.heap.size Y (Y.alloc (.cells #[.int .i64 gop,.int .i64 gvk,.int .i64 gvn,.string gvs,.int .i64 grel,.int .i64 gcol,.int .i64 gn,.string gs,.slice gq glen gc] 44)):=ext_alloc (ext_refl _) _
      have HB1:=zH b1
      have HPU:=zH (hPY.below b1)
      have HY:=zH ((elE_ok.on b1.size (fun j _ hl=>b1.block j hl) (fun _ h _=>h) y ⟨gop,⟨gvk,gvn,gvs⟩,grel,gcol,gn,gs,gq,glen,gc⟩ hy))
      have OWU:=zH (OWY.out.trans (Out.of b1))
      have PUU:=zH (POY.out.trans (Out.of b1))
      have hWU:=OWU.out.size
      have hXU:=Nat.le_trans hOY.size b1.size
      have OWN:=zH (HK1.out.kept (S:=fun j=>j=p) OWU.out (fun j hj e=>by have:=(HK1.out.lt j e).1;omega))
      have RELS:=zH (fun (j:Nat) (r:RawE) (x:Ex) hr hx=>elE_ok.on OWU.out.size (fun g hg hl=>OWU.out.block g hl (fun (e:g=p)=>by have:=hg.1;omega)) (fun _ h _=>h) x r (HK3.out j r x hr hx))
      clear hy hPY hOY hA b1
      go_wp2_with (at_builtin;go_must (refine wp_append_at rfl _ _ 36 44 rfl Tryz.underlying36 _ 104 Tryz.info_expr rfl (by omega) elE_ok.len RawE.one w.heap.size _ K rfl OWN.out _ 1 1 [⟨gop,⟨gvk,gvn,gvs⟩,grel,gcol,gn,gs,gq,glen,gc⟩] rfl rfl 0 _ (one_block elE_ok.len 44 #[.int .i64 gop,.int .i64 gvk,.int .i64 gvn,.string gvs,.int .i64 grel,.int .i64 gcol,.int .i64 gn,.string gs,.slice gq glen gc] ⟨gop,⟨gvk,gvn,gvs⟩,grel,gcol,gn,gs,gq,glen,gc⟩ rfl _ rfl) ?kr ?ka ?kb ?_))
      case kr=>rw[← HN.out];unfold maxLen;simp;omega
      case ka=>rw[← HN.out];simp;omega
      case kb=>exact Nat.le_trans hwW hWU
      intro v' w' ON bN oN hat
      have hlt:=fun k (e:(Value.slice q n c).ownBlock=some k)=>(HK1.out.lt k e).2
      have GR:=LsO.grown elE_ok (W:=W) (U:=Y.alloc (.cells #[.int .i64 gop,.int .i64 gvk,.int .i64 gvn,.string gvs,.int .i64 grel,.int .i64 gcol,.int .i64 gn,.string gs,.slice gq glen gc] 44)) HK2.out RELS.out hlt (elE_ok.on (Nat.le_refl _) (fun _ _ _=>rfl) (fun g hg _=>Nat.le_trans hWX hg) y _ HY.out) hwW hWU ON oN (by rcases hat with h | h;exact .inl h;exact .inr (by simpa using h))
      have NB:∀ j,(Value.slice q n c).ownBlock=some j→p<j:=fun j e=>by have:=(HK1.out.lt j e).1;omega
      have PN:=zH (HPU.out.outs oN NB)
      have ONw:=zH (Out.down ((PUU.out.up (N:=w.heap.size)).trans (oN.mono fun j _ hj=>.inr (HK1.out.lt j hj).1)))
      have GR:=zH GR
      have hm1:=PN.out.restLen
      have hm2:=HP.out.restLen
      have hl8:(L++[y]).length≤8:=by have h1:=HN.out;have h2:=HK2.out;simp;omega
      clear ON bN oN hat NB hlt
      go_wp2_with fail
      go_roundw
      case rel=>exact⟨L++[y],r',HQ2.out,GR.out,PN.out,hl8,ONw.out⟩
      case measure=>exact lt_of_eq_of_lt hm1 (by rw[hm2];have:=HLEN.out;simp only[List.length_cons];omega)
theorem Tryz.info_key:(Tryz.prog.info? 72).map (fun i=>(i.zero,i.size,i.bytes))=some (some (.agg #[.int .i64 0,.bool false]),2,16):=by kernel_rfl
set_option maxHeartbeats 8000000 in
theorem list_key_any (f:FuncId) (one:Rd Ky) (p z k:Nat) (hk:Keep one) (hen:∀ (args:Array Value) (w:World),(callFunc f args).run Tryz.prog w=.ok (.enter f args) w) (h1:∀ (l:List Tok) (w:World),PSt w p z l k→Calls Tryz.prog f #[.pointer (some ⟨p,0,none⟩)] w (Ans KyV p z k (one l) w))
  (l:List Tok) (w:World) (h:PSt w p z l k):Calls Tryz.prog 23 #[.pointer (some ⟨p,0,none⟩),.func (.func f) #[.pointer (some ⟨p,0,none⟩)] #[]] w (Ans (LsV elK) p z k (listP z one l) w):=by
 have C1:=zH (h1 l w h)
 have H1:=zH h1
 have HK:=zH hk
 have lp:=h.lt
 have H:=zH h
 clear h1 hk h
 cases hr:one l with
 | err er a =>
  have HR:=zH (show listP z one l=.err er a by unfold listP;rw[hr];rfl)
  have HR1:=zH hr
  clear hr
  go_enter Tryz.func23,Tryz.ntmps23
  go_wp2_with fail
  refine C1.out.mono ?_
  intro e V hA
  obtain⟨rfl,hE,hO⟩:=hA.err HR1.out
  go_wp2_with fail
  exact⟨rfl,Ans.mkErr HR.out hE hO⟩
 | ok x r =>
  have HR:=zH (show listP z one l=listW z one [x] r by unfold listP;rw[hr];rfl)
  have HR1:=zH hr
  clear hr
  go_enter Tryz.func23,Tryz.ntmps23
  go_wp2_with fail
  refine C1.out.mono ?_
  intro e V hA
  obtain⟨⟨v,rfl,⟨⟨fcol,fdesc⟩,rfl,hx⟩⟩,hP,hO⟩:=hA.ok HR1.out
  have b1:Below V.heap.size V (V.alloc (.cells #[.int .i64 fcol,.bool fdesc] 72)):=ext_alloc (ext_refl _) _
  have LO:=zH (LsO.first elK_ok (r:=⟨fcol,fdesc⟩) (x:=x) (w:=V) (b:=w.heap.size) hx hO.size)
  have HPU:=zH (hP.below b1)
  have PU:=zH (hO.trans (Out.of b1))
  clear hx hP hO b1 hA
  go_wp2_with fail
  go_loopw [5] (fun v5 wr=>∃ (L:List Ky) (l':List Tok),Hid (listW z one L l'=listP z one l)∧Hid (LsO elK wr w.heap.size v5 L)∧Hid (PSt wr p z l' k)∧L.length≤8∧Hid (Out (fun j=>j=p) w wr)) (fun _ wr=>restLen wr p)
  case atStart=>exact⟨[x],r,HR.out.symm,LO.out,HPU.out,(by simp),PU.out⟩
  case round =>
   obtain⟨L,l',hQ,hL,hP,h8,hO⟩:=hrel
   obtain⟨W,hW⟩:∃ W,W=wr:=⟨_,rfl⟩
   rw[← hW] at hL hP hO ⊢
   have HQ:=zH hQ.out
   have HL:=zH hL.out
   have HP:=zH hP.out
   have HO:=zH hO.out
   obtain⟨K,hK1,hK2,hK3⟩:=HL.out.own
   obtain⟨q,c,rfl,-⟩:=OwnF.arr elK_ok.len hK1
   obtain⟨n,hn⟩:∃ n,n=K.length:=⟨_,rfl⟩
   have HN:=zH hn
   rw[← hn] at hK1 hK3 HL ⊢
   have HK1:=zH hK1
   have HK2:=zH hK2
   have HK3:=zH hK3
   have hpW:=HP.out.lt
   have hwW:=HO.out.size
   clear hW hQ hL hP hO hK1 hK2 hK3 hn C1 LO HPU PU
   cases hc:hSees [44] l' with
   | false =>
    have TK:=zH (take_no p z k l' [44] W HP.out hc)
    have HRES:=zH (show listP z one l=.ok L l' by rw[← HQ.out,listW_none hc])
    clear hc
    go_wp2_with fail
    refine TK.out.mono ?_
    rintro e X ⟨rfl,hb⟩
    have HLX:=zH ((HL.out.outs elK_ok (Out.of (S:=fun _=>False) hb) (fun _ h _=>h.elim)).read elK_ok)
    have HPX:=zH (HP.out.below hb)
    have HOX:=zH (HO.out.trans (Out.of hb))
    clear hb TK
    go_wp2_with fail
    exact bodyPost_ret (v:=.slice q n c) (by simp[results,Tryz.results23,go_sem]) rfl (Ans.mkOk HRES.out HLX.out HPX.out HOX.out)
   | true =>
    obtain⟨t,l2,rfl,-,-⟩:=sees_cons hc
    have TK:=zH (take_yes p z k t l2 [44] W HP.out hc)
    have HC:=zH hc
    clear hc
    go_wp2_with fail
    refine TK.out.mono ?_
    rintro e X ⟨rfl,hPX,hOX⟩
    have HPX:=zH hPX
    have HOX:=zH hOX
    have POX:=zH (HO.out.trans hOX)
    have hWX:=hOX.size
    have CX:=zH (H1.out l2 X hPX)
    clear hPX hOX TK
    by_cases hn8:n=8
    ·have e8:((n:Int) == 8)=true:=by rw[beq_iff_eq];omega
     have HRES:=zH (show listP z one l=.err 5 (hAt z l2) by rw[← HQ.out,listW_full HC.out (by rw[← HK2.out,← HN.out];exact hn8)];rfl)
     go_wp2_with fail
     refine (wrong_any p z k l2 5 X HPX.out).mono ?_
     rintro e Y ⟨rfl,hb⟩
     go_wp2_with fail
     exact⟨rfl,Ans.mkErr HRES.out (HPX.out.below hb).pe (POX.out.trans (Out.of hb))⟩
    ·have e8:((n:Int) == 8)=false:=by rw[beq_eq_false_iff_ne];omega
     have hL8:L.length≠8:=by rw[← HK2.out,← HN.out];exact hn8
     have hn7:n≤7:=by have h1:=HN.out;have h2:=HK2.out;omega
     cases hr2:one l2 with
     | err er a =>
      have HR2:=zH hr2
      have HRES:=zH (show listP z one l=.err er a by rw[← HQ.out,listW_err HC.out hL8 hr2])
      clear hr2
      go_wp2_with fail
      refine CX.out.mono ?_
      intro e Y hA
      obtain⟨rfl,hE,hO⟩:=hA.err HR2.out
      go_wp2_with fail
      exact⟨rfl,Ans.mkErr HRES.out hE (POX.out.trans hO)⟩
     | ok y r' =>
      have HR2:=zH hr2
      have HQ2:=zH (show listW z one (L++[y]) r'=listP z one l by rw[← HQ.out,listW_some HK.out HC.out hL8 hr2])
      have HLEN:=zH (show r'.length≤l2.length from HK.out.len hr2)
      clear hr2
      go_wp2_with fail
      refine CX.out.mono ?_
      intro e Y hA
      obtain⟨⟨v,rfl,⟨⟨gcol,gdesc⟩,rfl,hy⟩⟩,hPY,hOY⟩:=hA.ok HR2.out
      have OWY:=zH (HOX.out.trans hOY)
      have POY:=zH (POX.out.trans hOY)
      have b1:Below Y.heap.size Y (Y.alloc (.cells #[.int .i64 gcol,.bool gdesc] 72)):=ext_alloc (ext_refl _) _
      have HB1:=zH b1
      have HPU:=zH (hPY.below b1)
      have HY:=zH ((elK_ok.on b1.size (fun j _ hl=>b1.block j hl) (fun _ h _=>h) y ⟨gcol,gdesc⟩ hy))
      have OWU:=zH (OWY.out.trans (Out.of b1))
      have PUU:=zH (POY.out.trans (Out.of b1))
      have hWU:=OWU.out.size
      have hXU:=Nat.le_trans hOY.size b1.size
      have OWN:=zH (HK1.out.kept (S:=fun j=>j=p) OWU.out (fun j hj e=>by have:=(HK1.out.lt j e).1;omega))
      have RELS:=zH (fun (j:Nat) (r:RawK) (x:Ky) hr hx=>elK_ok.on OWU.out.size (fun g hg hl=>OWU.out.block g hl (fun (e:g=p)=>by have:=hg.1;omega)) (fun _ h _=>h) x r (HK3.out j r x hr hx))
      clear hy hPY hOY hA b1
      go_wp2_with (at_builtin;go_must (refine wp_append_at rfl _ _ 24 72 rfl Tryz.underlying24 _ 16 Tryz.info_key rfl (by omega) elK_ok.len RawK.one w.heap.size _ K rfl OWN.out _ 1 1 [⟨gcol,gdesc⟩] rfl rfl 0 _ (one_block elK_ok.len 72 #[.int .i64 gcol,.bool gdesc] ⟨gcol,gdesc⟩ rfl _ rfl) ?kr ?ka ?kb ?_))
      case kr=>rw[← HN.out];unfold maxLen;simp;omega
      case ka=>rw[← HN.out];simp;omega
      case kb=>exact Nat.le_trans hwW hWU
      intro v' w' ON bN oN hat
      have hlt:=fun k (e:(Value.slice q n c).ownBlock=some k)=>(HK1.out.lt k e).2
      have GR:=LsO.grown elK_ok (W:=W) (U:=Y.alloc (.cells #[.int .i64 gcol,.bool gdesc] 72)) HK2.out RELS.out hlt (elK_ok.on (Nat.le_refl _) (fun _ _ _=>rfl) (fun g hg _=>Nat.le_trans hWX hg) y _ HY.out) hwW hWU ON oN (by rcases hat with h | h;exact .inl h;exact .inr (by simpa using h))
      have NB:∀ j,(Value.slice q n c).ownBlock=some j→p<j:=fun j e=>by have:=(HK1.out.lt j e).1;omega
      have PN:=zH (HPU.out.outs oN NB)
      have ONw:=zH (Out.down ((PUU.out.up (N:=w.heap.size)).trans (oN.mono fun j _ hj=>.inr (HK1.out.lt j hj).1)))
      have GR:=zH GR
      have hm1:=PN.out.restLen
      have hm2:=HP.out.restLen
      have hl8:(L++[y]).length≤8:=by have h1:=HN.out;have h2:=HK2.out;simp;omega
      clear ON bN oN hat NB hlt
      go_wp2_with fail
      go_roundw
      case rel=>exact⟨L++[y],r',HQ2.out,GR.out,PN.out,hl8,ONw.out⟩
      case measure=>exact lt_of_eq_of_lt hm1 (by rw[hm2];have:=HLEN.out;simp only[List.length_cons];omega)
end Go.Proofs.YtapbglhjamddbaaGreatDoor
