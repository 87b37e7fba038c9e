/- A part of the proof. -/
import Derived.Test.YtapbglhjamddbaaGreatDoorQaC
import Derived.Test.YtapbglhjamddbaaGreatDoorHd
set_option linter.unusedSimpArgs false
set_option linter.unusedVariables false
namespace Go.Proofs.YtapbglhjamddbaaGreatDoor
open Go.RowKit Go.Deep
set_option maxRecDepth 100000
theorem out2 (X:World) (g:Nat) (v0 v1:Value):Out (fun j=>j=g) X ((X.setCell ⟨g,0,none⟩ v0).setCell ⟨g,1,none⟩ v1):=((Out.refl _ X).trans (Out.set (S:=fun j=>j=g) ⟨g,0,none⟩ v0 rfl)).trans (Out.set (S:=fun j=>j=g) ⟨g,1,none⟩ v1 rfl)
theorem out5 (X:World) (g:Nat) (v0 v1 v2 v3 v4:Value):Out (fun j=>j=g) X (((((X.setCell ⟨g,0,none⟩ v0).setCell ⟨g,1,none⟩ v1).setCell ⟨g,2,none⟩ v2).setCell ⟨g,3,none⟩ v3).setCell ⟨g,4,none⟩ v4):=(((((Out.refl _ X).trans (Out.set (S:=fun j=>j=g) ⟨g,0,none⟩ v0 rfl)).trans (Out.set (S:=fun j=>j=g) ⟨g,1,none⟩ v1 rfl)).trans (Out.set (S:=fun j=>j=g) ⟨g,2,none⟩ v2 rfl)).trans (Out.set (S:=fun j=>j=g) ⟨g,3,none⟩ v3 rfl)).trans (Out.set (S:=fun j=>j=g) ⟨g,4,none⟩ v4 rfl)
theorem out10 (X:World) (g:Nat) (v0 v1 v2 v3 v4 v5 v6 v7 v8 v9:Value):Out (fun j=>j=g) X ((((((((((X.setCell ⟨g,0,none⟩ v0).setCell ⟨g,1,none⟩ v1).setCell ⟨g,2,none⟩ v2).setCell ⟨g,3,none⟩ v3).setCell ⟨g,4,none⟩ v4).setCell ⟨g,5,none⟩ v5).setCell ⟨g,6,none⟩ v6).setCell ⟨g,7,none⟩ v7).setCell ⟨g,8,none⟩ v8).setCell ⟨g,9,none⟩ v9):=((((((((((Out.refl _ X).trans (Out.set (S:=fun j=>j=g) ⟨g,0,none⟩ v0 rfl)).trans (Out.set (S:=fun j=>j=g) ⟨g,1,none⟩ v1 rfl)).trans (Out.set (S:=fun j=>j=g) ⟨g,2,none⟩ v2 rfl)).trans (Out.set (S:=fun j=>j=g) ⟨g,3,none⟩ v3 rfl)).trans (Out.set (S:=fun j=>j=g) ⟨g,4,none⟩ v4 rfl)).trans (Out.set (S:=fun j=>j=g) ⟨g,5,none⟩ v5 rfl)).trans (Out.set (S:=fun j=>j=g) ⟨g,6,none⟩ v6 rfl)).trans (Out.set (S:=fun j=>j=g) ⟨g,7,none⟩ v7 rfl)).trans (Out.set (S:=fun j=>j=g) ⟨g,8,none⟩ v8 rfl)).trans (Out.set (S:=fun j=>j=g) ⟨g,9,none⟩ v9 rfl)
abbrev zKey:List Value:=[.int .i64 0,.bool false]
abbrev zItem:List Value:=.int .i64 0 :: zExpr
abbrev zFrom:List Value:=[.string ⟨#[]⟩,.string ⟨#[]⟩,.int .i64 0,.slice none 0 0]
def FrV (b:Nat) (w:World) (x:Fr) (v:Value):Prop:=∃ r:RawF,v=.agg #[.string r.table,.string r.alias,.int .i64 r.kind,.slice r.q r.n r.c]∧elF.rel w (fun g=>b≤g) x r
theorem fin_st {w V M:World} {p z k gr:Nat} {r:List Tok} (hgr:w.heap.size≤gr) (hp:p<w.heap.size) (hP:PSt V p z r k) (hO:Out (fun j=>j=p∨w.heap.size≤j) w V) (o:Out (fun j=>j=gr) V M):PSt M p z r k∧Out (fun j=>j=p) w M :=
 ⟨hP.outs o (fun j hj=>by omega),Out.down (hO.trans (o.mono fun j _ hj=>.inr (by omega)))⟩
set_option maxHeartbeats 4000000 in
theorem key_bad (p z k:Nat) (l:List Tok) (hk:(hd z l).kd≠3) (w:World) (h:PSt w p z l k):Calls Tryz.prog 24 #[.pointer (some ⟨p,0,none⟩)] w (Ans KyV p z k (bKey z l) w):=by
 have lp:=h.lt
 have htk:=h.tk
 have b0:Below w.heap.size w (w.alloc (.cells zKey.toArray 72)):=ext_alloc (ext_refl _) _
 have N0:=zH (BkA.new w zKey 72)
 have HP0:=zH (h.below b0)
 have B0:=zH b0
 have HR:bKey z l=.err 7 (hAt z l):=by
  cases l with
  | nil=>rfl
  | cons t r=>rw[bKey];exact if_neg hk
 rw[HR]
 have RD:=zH (read_no p z k l 3 _ HP0.out hk)
 clear htk h b0 hk HR
 go_enter Tryz.func24,Tryz.ntmps24
 go_wp2_with fail
 refine RD.out.mono ?_
 rintro e V ⟨rfl,hE,hO⟩
 go_wp2_with fail
 exact⟨rfl,Ans.mkErr rfl hE ((Out.of B0.out).trans hO)⟩
set_option maxHeartbeats 4000000 in
theorem key_yes (p z k:Nat) (t td:Tok) (r:List Tok) (hk:t.kd=3) (hd1:hSees kwDesc (td :: r)=true) (w:World) (h:PSt w p z (t :: td :: r) k):Calls Tryz.prog 24 #[.pointer (some ⟨p,0,none⟩)] w (Ans KyV p z k (bKey z (t :: td :: r)) w):=by
 have lp:=h.lt
 have htk:=h.tk
 have b0:Below w.heap.size w (w.alloc (.cells zKey.toArray 72)):=ext_alloc (ext_refl _) _
 have N0:=zH (BkA.new w zKey 72)
 have HP0:=zH (h.below b0)
 have B0:=zH b0
 have HR:bKey z (t :: td :: r)=.ok ⟨(t.n:Int) - 1,true⟩ r:=by rw[bKey,if_pos hk];rw[if_pos hd1];rfl
 rw[HR]
 have hwf:=(htk.wf t (List.mem_cons_self ..)).num
 obtain⟨kd,n,a,s⟩:=t
 simp only at hk hwf
 subst hk
 have RD:=zH (read_yes p z k ⟨3,n,a,s⟩ (td :: r) 3 _ HP0.out rfl)
 have HD1:=zH hd1
 have hfn:=fun w=>Tryz.tokN 3 n a (bsB s) w
 have hwr:wrap64 ((n:Int) - 1)=(n:Int) - 1:=by unfold wrap64;omega
 clear htk h b0 HR hd1
 go_enter Tryz.func24,Tryz.ntmps24
 go_wp2_with fail
 refine RD.out.mono ?_
 rintro e V ⟨rfl,hP,hO⟩
 have HPV:=zH hP
 have NV:=zH (N0.out.outs hO (by omega))
 have PV:=zH ((Out.of (S:=fun j=>j=p∨w.heap.size≤j) B0.out).trans hO.up)
 have hwV:w.heap.size<V.heap.size:=NV.out.lt
 clear hP hO RD
 have TK:=zH (take_yes p z k td r kwDesc V HPV.out HD1.out)
 go_wp2_with fail
 refine TK.out.mono ?_
 rintro e X ⟨rfl,hP,hO⟩
 have NX:=NV.out.outs hO (by omega)
 have HF:=zH (fin_st (gr:=w.heap.size) (Nat.le_refl _) lp hP (PV.out.trans hO.up) (out2 X w.heap.size (.int .i64 ((n:Int) - 1)) (.bool true)))
 clear hP hO TK
 have d0:=NX.c 0 _ rfl
 have d1:=NX.c 1 _ rfl
 have fzr:=NX.fz
 have ltr:=NX.lt
 clear NX
 go_wp2_with fail
 exact bodyPost_ret (v:=.agg #[.int .i64 ((n:Int) - 1),.bool true]) (by simp[results,Tryz.results24,go_sem,d0,d1]) rfl (Ans.mkOk rfl ⟨⟨(n:Int) - 1,true⟩,rfl,rfl,rfl⟩ HF.out.1 HF.out.2)
set_option maxHeartbeats 4000000 in
theorem key_no (p z k:Nat) (t:Tok) (r:List Tok) (hk:t.kd=3) (hd1:hSees kwDesc r=false) (w:World) (h:PSt w p z (t :: r) k):Calls Tryz.prog 24 #[.pointer (some ⟨p,0,none⟩)] w (Ans KyV p z k (bKey z (t :: r)) w):=by
 have lp:=h.lt
 have htk:=h.tk
 have b0:Below w.heap.size w (w.alloc (.cells zKey.toArray 72)):=ext_alloc (ext_refl _) _
 have N0:=zH (BkA.new w zKey 72)
 have HP0:=zH (h.below b0)
 have B0:=zH b0
 have HR:bKey z (t :: r)=.ok ⟨(t.n:Int) - 1,false⟩ r:=by rw[bKey,if_pos hk];rw[if_neg (by rw[hd1];decide)]
 rw[HR]
 have hwf:=(htk.wf t (List.mem_cons_self ..)).num
 obtain⟨kd,n,a,s⟩:=t
 simp only at hk hwf
 subst hk
 have RD:=zH (read_yes p z k ⟨3,n,a,s⟩ r 3 _ HP0.out rfl)
 have HD1:=zH hd1
 have hfn:=fun w=>Tryz.tokN 3 n a (bsB s) w
 have hwr:wrap64 ((n:Int) - 1)=(n:Int) - 1:=by unfold wrap64;omega
 clear htk h b0 HR hd1
 go_enter Tryz.func24,Tryz.ntmps24
 go_wp2_with fail
 refine RD.out.mono ?_
 rintro e V ⟨rfl,hP,hO⟩
 have HPV:=zH hP
 have NV:=zH (N0.out.outs hO (by omega))
 have PV:=zH ((Out.of (S:=fun j=>j=p∨w.heap.size≤j) B0.out).trans hO.up)
 have hwV:w.heap.size<V.heap.size:=NV.out.lt
 clear hP hO RD
 have TK:=zH (take_no p z k r kwDesc V HPV.out HD1.out)
 go_wp2_with fail
 refine TK.out.mono ?_
 rintro e X ⟨rfl,hb⟩
 have NX:=NV.out.on hb
 have HF:=zH (fin_st (gr:=w.heap.size) (Nat.le_refl _) lp (HPV.out.below hb) (PV.out.trans (Out.of hb)) (out2 X w.heap.size (.int .i64 ((n:Int) - 1)) (.bool false)))
 clear hb TK
 have d0:=NX.c 0 _ rfl
 have d1:=NX.c 1 _ rfl
 have fzr:=NX.fz
 have ltr:=NX.lt
 clear NX
 go_wp2_with fail
 exact bodyPost_ret (v:=.agg #[.int .i64 ((n:Int) - 1),.bool false]) (by simp[results,Tryz.results24,go_sem,d0,d1]) rfl (Ans.mkOk rfl ⟨⟨(n:Int) - 1,false⟩,rfl,rfl,rfl⟩ HF.out.1 HF.out.2)
theorem key_any (p z k:Nat) (l:List Tok) (w:World) (h:PSt w p z l k):Calls Tryz.prog 24 #[.pointer (some ⟨p,0,none⟩)] w (Ans KyV p z k (bKey z l) w):=by
 by_cases hk:(hd z l).kd=3
 ·cases l with
  | nil=>simp[hd,endTok] at hk
  | cons t r =>
   cases hd1:hSees kwDesc r with
   | true =>
    obtain⟨td,r1,rfl,-,-⟩:=sees_cons hd1
    exact key_yes p z k t td r1 hk hd1 w h
   | false=>exact key_no p z k t r hk hd1 w h
 ·exact key_bad p z k l hk w h
def AgA (p z k:Nat) (l:List Tok) (o:Option Int) (w:World) (e:Ending) (w':World):Prop :=
 match o with
 | some a=>e=.returned (.int .i64 a)∧PSt w' p z l.tail k∧Out (fun j=>j=p) w w'
 | none=>e=.returned (.int .i64 0)∧Below w.heap.size w w'
theorem AgA.some {p z k:Nat} {l:List Tok} {o:Option Int} {op:Int} {w w':World} {e:Ending} (h:AgA p z k l o w e w') (ho:o=.some op):e=.returned (.int .i64 op)∧PSt w' p z l.tail k∧Out (fun j=>j=p) w w':=by subst ho;exact h
theorem AgA.none {p z k:Nat} {l:List Tok} {o:Option Int} {w w':World} {e:Ending} (h:AgA p z k l o w e w') (ho:o=.none):e=.returned (.int .i64 0)∧Below w.heap.size w w':=by subst ho;exact h
set_option maxHeartbeats 2000000 in
theorem agg_0 (p z k:Nat) (t:Tok) (r:List Tok) (w:World) (h:PSt w p z (t :: r) k) (s0:hSees kwCount (t :: r)=true):Calls Tryz.prog 71 #[.pointer (some ⟨p,0,none⟩)] w (AgA p z k (t :: r) (some 2) w):=by
 have HQ0:=zH h
 have BQ0:=zH (Below.refl w.heap.size w)
 have S0:=zH s0
 clear h s0
 go_enter Tryz.func71,Tryz.ntmps71
 have T:=zH (take_yes p z k t r kwCount w HQ0.out S0.out)
 go_wp2_with fail
 refine T.out.mono ?_
 rintro e X ⟨rfl,hP,hO⟩
 have HPX:=zH hP
 have HOX:=zH ((Out.of (S:=fun j=>j=p) BQ0.out).trans hO)
 clear hP hO T
 go_wp2_with fail
 exact bodyPost_ret (v:=.int .i64 2) (by simp[results,Tryz.results71,go_sem]) rfl ⟨rfl,HPX.out,HOX.out⟩
set_option maxHeartbeats 2000000 in
theorem agg_1 (p z k:Nat) (t:Tok) (r:List Tok) (w:World) (h:PSt w p z (t :: r) k) (s0:hSees kwCount (t :: r)=false) (s1:hSees kwSum (t :: r)=true):Calls Tryz.prog 71 #[.pointer (some ⟨p,0,none⟩)] w (AgA p z k (t :: r) (some 3) w):=by
 have HQ0:=zH h
 have BQ0:=zH (Below.refl w.heap.size w)
 have S0:=zH s0
 have S1:=zH s1
 clear h s0 s1
 go_enter Tryz.func71,Tryz.ntmps71
 have T0:=zH (take_no p z k (t :: r) kwCount w HQ0.out S0.out)
 go_wp2_with fail
 refine T0.out.mono ?_
 rintro e Q1 ⟨rfl,hb⟩
 have HQ1:=zH (HQ0.out.below hb)
 have BQ1:=zH (BQ0.out.trans (hb.mono BQ0.out.size))
 clear hb T0
 have T:=zH (take_yes p z k t r kwSum Q1 HQ1.out S1.out)
 go_wp2_with fail
 refine T.out.mono ?_
 rintro e X ⟨rfl,hP,hO⟩
 have HPX:=zH hP
 have HOX:=zH ((Out.of (S:=fun j=>j=p) BQ1.out).trans hO)
 clear hP hO T
 go_wp2_with fail
 exact bodyPost_ret (v:=.int .i64 3) (by simp[results,Tryz.results71,go_sem]) rfl ⟨rfl,HPX.out,HOX.out⟩
set_option maxHeartbeats 2000000 in
theorem agg_2 (p z k:Nat) (t:Tok) (r:List Tok) (w:World) (h:PSt w p z (t :: r) k) (s0:hSees kwCount (t :: r)=false) (s1:hSees kwSum (t :: r)=false) (s2:hSees kwMin (t :: r)=true):Calls Tryz.prog 71 #[.pointer (some ⟨p,0,none⟩)] w (AgA p z k (t :: r) (some 4) w):=by
 have HQ0:=zH h
 have BQ0:=zH (Below.refl w.heap.size w)
 have S0:=zH s0
 have S1:=zH s1
 have S2:=zH s2
 clear h s0 s1 s2
 go_enter Tryz.func71,Tryz.ntmps71
 have T0:=zH (take_no p z k (t :: r) kwCount w HQ0.out S0.out)
 go_wp2_with fail
 refine T0.out.mono ?_
 rintro e Q1 ⟨rfl,hb⟩
 have HQ1:=zH (HQ0.out.below hb)
 have BQ1:=zH (BQ0.out.trans (hb.mono BQ0.out.size))
 clear hb T0
 have T1:=zH (take_no p z k (t :: r) kwSum Q1 HQ1.out S1.out)
 go_wp2_with fail
 refine T1.out.mono ?_
 rintro e Q2 ⟨rfl,hb⟩
 have HQ2:=zH (HQ1.out.below hb)
 have BQ2:=zH (BQ1.out.trans (hb.mono BQ1.out.size))
 clear hb T1
 have T:=zH (take_yes p z k t r kwMin Q2 HQ2.out S2.out)
 go_wp2_with fail
 refine T.out.mono ?_
 rintro e X ⟨rfl,hP,hO⟩
 have HPX:=zH hP
 have HOX:=zH ((Out.of (S:=fun j=>j=p) BQ2.out).trans hO)
 clear hP hO T
 go_wp2_with fail
 exact bodyPost_ret (v:=.int .i64 4) (by simp[results,Tryz.results71,go_sem]) rfl ⟨rfl,HPX.out,HOX.out⟩
set_option maxHeartbeats 2000000 in
theorem agg_3 (p z k:Nat) (t:Tok) (r:List Tok) (w:World) (h:PSt w p z (t :: r) k) (s0:hSees kwCount (t :: r)=false) (s1:hSees kwSum (t :: r)=false) (s2:hSees kwMin (t :: r)=false) (s3:hSees kwMax (t :: r)=true):Calls Tryz.prog 71 #[.pointer (some ⟨p,0,none⟩)] w (AgA p z k (t :: r) (some 5) w):=by
 have HQ0:=zH h
 have BQ0:=zH (Below.refl w.heap.size w)
 have S0:=zH s0
 have S1:=zH s1
 have S2:=zH s2
 have S3:=zH s3
 clear h s0 s1 s2 s3
 go_enter Tryz.func71,Tryz.ntmps71
 have T0:=zH (take_no p z k (t :: r) kwCount w HQ0.out S0.out)
 go_wp2_with fail
 refine T0.out.mono ?_
 rintro e Q1 ⟨rfl,hb⟩
 have HQ1:=zH (HQ0.out.below hb)
 have BQ1:=zH (BQ0.out.trans (hb.mono BQ0.out.size))
 clear hb T0
 have T1:=zH (take_no p z k (t :: r) kwSum Q1 HQ1.out S1.out)
 go_wp2_with fail
 refine T1.out.mono ?_
 rintro e Q2 ⟨rfl,hb⟩
 have HQ2:=zH (HQ1.out.below hb)
 have BQ2:=zH (BQ1.out.trans (hb.mono BQ1.out.size))
 clear hb T1
 have T2:=zH (take_no p z k (t :: r) kwMin Q2 HQ2.out S2.out)
 go_wp2_with fail
 refine T2.out.mono ?_
 rintro e Q3 ⟨rfl,hb⟩
 have HQ3:=zH (HQ2.out.below hb)
 have BQ3:=zH (BQ2.out.trans (hb.mono BQ2.out.size))
 clear hb T2
 have T:=zH (take_yes p z k t r kwMax Q3 HQ3.out S3.out)
 go_wp2_with fail
 refine T.out.mono ?_
 rintro e X ⟨rfl,hP,hO⟩
 have HPX:=zH hP
 have HOX:=zH ((Out.of (S:=fun j=>j=p) BQ3.out).trans hO)
 clear hP hO T
 go_wp2_with fail
 exact bodyPost_ret (v:=.int .i64 5) (by simp[results,Tryz.results71,go_sem]) rfl ⟨rfl,HPX.out,HOX.out⟩
set_option maxHeartbeats 2000000 in
theorem agg_4 (p z k:Nat) (l:List Tok) (w:World) (h:PSt w p z l k) (s0:hSees kwCount l=false) (s1:hSees kwSum l=false) (s2:hSees kwMin l=false) (s3:hSees kwMax l=false):Calls Tryz.prog 71 #[.pointer (some ⟨p,0,none⟩)] w (AgA p z k l none w):=by
 have HQ0:=zH h
 have BQ0:=zH (Below.refl w.heap.size w)
 have S0:=zH s0
 have S1:=zH s1
 have S2:=zH s2
 have S3:=zH s3
 clear h s0 s1 s2 s3
 go_enter Tryz.func71,Tryz.ntmps71
 have T0:=zH (take_no p z k l kwCount w HQ0.out S0.out)
 go_wp2_with fail
 refine T0.out.mono ?_
 rintro e Q1 ⟨rfl,hb⟩
 have HQ1:=zH (HQ0.out.below hb)
 have BQ1:=zH (BQ0.out.trans (hb.mono BQ0.out.size))
 clear hb T0
 have T1:=zH (take_no p z k l kwSum Q1 HQ1.out S1.out)
 go_wp2_with fail
 refine T1.out.mono ?_
 rintro e Q2 ⟨rfl,hb⟩
 have HQ2:=zH (HQ1.out.below hb)
 have BQ2:=zH (BQ1.out.trans (hb.mono BQ1.out.size))
 clear hb T1
 have T2:=zH (take_no p z k l kwMin Q2 HQ2.out S2.out)
 go_wp2_with fail
 refine T2.out.mono ?_
 rintro e Q3 ⟨rfl,hb⟩
 have HQ3:=zH (HQ2.out.below hb)
 have BQ3:=zH (BQ2.out.trans (hb.mono BQ2.out.size))
 clear hb T2
 have T3:=zH (take_no p z k l kwMax Q3 HQ3.out S3.out)
 go_wp2_with fail
 refine T3.out.mono ?_
 rintro e Q4 ⟨rfl,hb⟩
 have HQ4:=zH (HQ3.out.below hb)
 have BQ4:=zH (BQ3.out.trans (hb.mono BQ3.out.size))
 clear hb T3
 go_wp2_with fail
 exact bodyPost_ret (v:=.int .i64 0) (by simp[results,Tryz.results71,go_sem]) rfl ⟨rfl,BQ4.out⟩
theorem agg_any (p z k:Nat) (l:List Tok) (w:World) (h:PSt w p z l k):Calls Tryz.prog 71 #[.pointer (some ⟨p,0,none⟩)] w (AgA p z k l (opOf opsAgg l) w):=by
 unfold opsAgg
 cases s0:hSees kwCount l with
 | true =>
  obtain⟨t,r,rfl,-,-⟩:=sees_cons s0
  rw[opOf,if_pos s0]
  exact agg_0 p z k t r w h s0
 | false =>
 cases s1:hSees kwSum l with
 | true =>
  obtain⟨t,r,rfl,-,-⟩:=sees_cons s1
  rw[opOf,if_neg (by rw[s0];decide),opOf,if_pos s1]
  exact agg_1 p z k t r w h s0 s1
 | false =>
 cases s2:hSees kwMin l with
 | true =>
  obtain⟨t,r,rfl,-,-⟩:=sees_cons s2
  rw[opOf,if_neg (by rw[s0];decide),opOf,if_neg (by rw[s1];decide),opOf,if_pos s2]
  exact agg_2 p z k t r w h s0 s1 s2
 | false =>
 cases s3:hSees kwMax l with
 | true =>
  obtain⟨t,r,rfl,-,-⟩:=sees_cons s3
  rw[opOf,if_neg (by rw[s0];decide),opOf,if_neg (by rw[s1];decide),opOf,if_neg (by rw[s2];decide),opOf,if_pos s3]
  exact agg_3 p z k t r w h s0 s1 s2 s3
 | false =>
  rw[opOf,if_neg (by rw[s0];decide),opOf,if_neg (by rw[s1];decide),opOf,if_neg (by rw[s2];decide),opOf,if_neg (by rw[s3];decide),opOf]
  exact agg_4 p z k l w h s0 s1 s2 s3
theorem out9s (X:World) (g:Nat) (v0 v1 v2 v3 v4 v5 v6 v7 v8:Value):Out (fun j=>j=g) X (((((((((X.setCell ⟨g,1,none⟩ v0).setCell ⟨g,2,none⟩ v1).setCell ⟨g,3,none⟩ v2).setCell ⟨g,4,none⟩ v3).setCell ⟨g,5,none⟩ v4).setCell ⟨g,6,none⟩ v5).setCell ⟨g,7,none⟩ v6).setCell ⟨g,8,none⟩ v7).setCell ⟨g,9,none⟩ v8):=(((((((((Out.refl _ X).trans (Out.set (S:=fun j=>j=g) ⟨g,1,none⟩ v0 rfl)).trans (Out.set (S:=fun j=>j=g) ⟨g,2,none⟩ v1 rfl)).trans (Out.set (S:=fun j=>j=g) ⟨g,3,none⟩ v2 rfl)).trans (Out.set (S:=fun j=>j=g) ⟨g,4,none⟩ v3 rfl)).trans (Out.set (S:=fun j=>j=g) ⟨g,5,none⟩ v4 rfl)).trans (Out.set (S:=fun j=>j=g) ⟨g,6,none⟩ v5 rfl)).trans (Out.set (S:=fun j=>j=g) ⟨g,7,none⟩ v6 rfl)).trans (Out.set (S:=fun j=>j=g) ⟨g,8,none⟩ v7 rfl)).trans (Out.set (S:=fun j=>j=g) ⟨g,9,none⟩ v8 rfl)
theorem itv_star (b:Nat) (w:World):ItV b w ⟨1,exZ⟩ (.agg #[.int .i64 1,.int .i64 0,.int .i64 0,.int .i64 0,.string ⟨#[]⟩,.int .i64 0,.int .i64 0,.int .i64 0,.string ⟨#[]⟩,.slice none 0 0]):=⟨⟨1,rawZ⟩,rfl,rfl,leaf_ex _ _ 0 zeroVal 0 ⟨#[]⟩ okVal_zer⟩
theorem agg_pos {a:Int} {l:List Tok} (h:opOf opsAgg l=some a):a≠0:=by
 unfold opsAgg at h
 rintro rfl
 simp only[opOf] at h
 split at h
 ·cases h
 split at h
 ·cases h
 split at h
 ·cases h
 split at h <;> cases h
set_option maxHeartbeats 4000000 in
theorem item_A_err (p z k:Nat) (orr:Rd Ex) (hC:RdC 52 p z k orr) (l:List Tok) (w:World) (h:PSt w p z l k) (ha:opOf opsAgg l=none) (er a0:Nat) (hr:orr l=.err er a0):Calls Tryz.prog 50 #[.pointer (some ⟨p,0,none⟩)] w (Ans ItV p z k (bItem z orr l) w):=by
 have lp:=h.lt
 have htk:=h.tk
 have b0:Below w.heap.size w (w.alloc (.cells zItem.toArray 46)):=ext_alloc (ext_refl _) _
 have N0:=zH (BkA.new w zItem 46)
 have HP0:=zH (h.below b0)
 have B0:=zH b0
 have HR:bItem z orr l=.err er a0:=by unfold bItem;rw[ha];dsimp only;rw[hr];rfl
 rw[HR]
 have AG:=agg_any p z k l _ HP0.out
 have HHR:=zH hr
 have HHA:=zH ha
 have HAG:=zH AG
 have HCC:=zH hC
 clear htk h b0 HR AG hC hr ha
 go_enter Tryz.func50,Tryz.ntmps50
 go_wp2_with fail
 refine HAG.out.mono ?_
 intro e V hA
 obtain⟨rfl,hb⟩:=hA.none HHA.out
 have HPV:=zH (HP0.out.below hb)
 have NV:=zH (N0.out.on hb)
 have BV:=zH (B0.out.trans (hb.mono B0.out.size))
 have CC:=zH (HCC.out l V HPV.out)
 clear hb hA
 go_wp2_with fail
 refine CC.out.mono ?_
 intro e Y hA
 obtain⟨rfl,hE,hO⟩:=hA.err HHR.out
 go_wp2_with fail
 exact⟨rfl,Ans.mkErr rfl hE ((Out.of BV.out).trans hO)⟩
set_option maxHeartbeats 4000000 in
theorem item_A_ok (p z k:Nat) (orr:Rd Ex) (hC:RdC 52 p z k orr) (l:List Tok) (w:World) (h:PSt w p z l k) (ha:opOf opsAgg l=none) (x:Ex) (r:List Tok) (hr:orr l=.ok x r):Calls Tryz.prog 50 #[.pointer (some ⟨p,0,none⟩)] w (Ans ItV p z k (bItem z orr l) w):=by
 have lp:=h.lt
 have htk:=h.tk
 have b0:Below w.heap.size w (w.alloc (.cells zItem.toArray 46)):=ext_alloc (ext_refl _) _
 have N0:=zH (BkA.new w zItem 46)
 have HP0:=zH (h.below b0)
 have B0:=zH b0
 have HR:bItem z orr l=.ok ⟨0,x⟩ r:=by unfold bItem;rw[ha];dsimp only;rw[hr];rfl
 rw[HR]
 have AG:=agg_any p z k l _ HP0.out
 have HHR:=zH hr
 have HHA:=zH ha
 have HAG:=zH AG
 have HCC:=zH hC
 clear htk h b0 HR AG hC hr ha
 go_enter Tryz.func50,Tryz.ntmps50
 go_wp2_with fail
 refine HAG.out.mono ?_
 intro e V hA
 obtain⟨rfl,hb⟩:=hA.none HHA.out
 have HPV:=zH (HP0.out.below hb)
 have NV:=zH (N0.out.on hb)
 have BV:=zH (B0.out.trans (hb.mono B0.out.size))
 have CC:=zH (HCC.out l V HPV.out)
 clear hb hA
 go_wp2_with fail
 refine CC.out.mono ?_
 intro e Y hA
 obtain⟨⟨v,rfl,⟨⟨fop,⟨fvk,fvn,fvs⟩,frel,fcol,fn,fs,fq,flen,fc⟩,rfl,hx⟩⟩,hP,hO⟩:=hA.ok HHR.out
 have hwV:w.heap.size<V.heap.size:=NV.out.lt
 have NY:=NV.out.outs hO (by omega)
 have o:=out10 Y w.heap.size (.int .i64 0) (.int .i64 fop) (.int .i64 fvk) (.int .i64 fvn) (.string fvs) (.int .i64 frel) (.int .i64 fcol) (.int .i64 fn) (.string fs) (.slice fq flen fc)
 have HF:=zH (And.intro (show ItV w.heap.size _ ⟨0,x⟩ (.agg #[.int .i64 0,.int .i64 fop,.int .i64 fvk,.int .i64 fvn,.string fvs,.int .i64 frel,.int .i64 fcol,.int .i64 fn,.string fs,.slice fq flen fc]) from ⟨⟨0,⟨fop,⟨fvk,fvn,fvs⟩,frel,fcol,fn,fs,fq,flen,fc⟩⟩,rfl,rfl,ExMP.on o.size (fun j hj hl=>o.block j hl (fun (e:j=w.heap.size)=>by omega)) (fun j hj _=>by omega) _ _ hx⟩) (fin_st (gr:=w.heap.size) (Nat.le_refl _) lp hP ((Out.of BV.out).trans hO.up) o))
 obtain⟨d0,d1,d2,d3,d4,d5,d6,d7,d8,d9⟩:=NY.c10_ rfl
 have fzr:=NY.fz
 have ltr:=NY.lt
 clear hA hx hP hO NY o
 go_wp2_with fail
 exact bodyPost_ret (v:=.agg #[.int .i64 0,.int .i64 fop,.int .i64 fvk,.int .i64 fvn,.string fvs,.int .i64 frel,.int .i64 fcol,.int .i64 fn,.string fs,.slice fq flen fc]) (by simp[results,Tryz.results50,go_sem,d0,d1,d2,d3,d4,d5,d6,d7,d8,d9]) rfl (Ans.mkOk rfl HF.out.1 HF.out.2.1 HF.out.2.2)
set_option maxHeartbeats 4000000 in
theorem item_B (p z k:Nat) (orr:Rd Ex) (hC:RdC 52 p z k orr) (l:List Tok) (w:World) (h:PSt w p z l k) (a:Int) (ha:opOf opsAgg l=some a) (hp1:hSees [40] l.tail=false):Calls Tryz.prog 50 #[.pointer (some ⟨p,0,none⟩)] w (Ans ItV p z k (bItem z orr l) w):=by
 have lp:=h.lt
 have htk:=h.tk
 have b0:Below w.heap.size w (w.alloc (.cells zItem.toArray 46)):=ext_alloc (ext_refl _) _
 have N0:=zH (BkA.new w zItem 46)
 have HP0:=zH (h.below b0)
 have B0:=zH b0
 have HR:bItem z orr l=.err 7 (hAt z l.tail):=by unfold bItem;rw[ha];dsimp only;unfold need;exact if_neg (by rw[hp1];decide)
 rw[HR]
 have AG:=agg_any p z k l _ HP0.out
 have HHP1:=zH hp1
 have HHA:=zH ha
 have hn0:(a == 0)=false:=by rw[beq_eq_false_iff_ne];exact agg_pos ha
 have HAG:=zH AG
 have HCC:=zH hC
 clear htk h b0 HR AG hC hp1 ha
 go_enter Tryz.func50,Tryz.ntmps50
 go_wp2_with fail
 refine HAG.out.mono ?_
 intro e V hA
 obtain⟨rfl,hP,hO⟩:=hA.some HHA.out
 have NV:=zH (N0.out.outs hO (by omega))
 have PV:=zH ((Out.of (S:=fun j=>j=p∨w.heap.size≤j) B0.out).trans hO.up)
 have HPV:=zH hP
 have hwV:w.heap.size<V.heap.size:=NV.out.lt
 clear hA hP hO
 go_wp2_with fail
 refine (need_no p z k l.tail [40] V HPV.out HHP1.out).mono ?_
 rintro e X ⟨rfl,hE,hO⟩
 go_wp2_with fail
 exact⟨rfl,Ans.mkErr rfl hE (Out.down (PV.out.trans hO.up))⟩
set_option maxHeartbeats 4000000 in
theorem item_C_no (p z k:Nat) (orr:Rd Ex) (hC:RdC 52 p z k orr) (t1 t2 t3:Tok) (r:List Tok) (w:World) (h:PSt w p z (t1 :: t2 :: t3 :: r) k) (ha:opOf opsAgg (t1 :: t2 :: t3 :: r)=some 2) (hp1:hSees [40] (t2 :: t3 :: r)=true) (hst:hSees [42] (t3 :: r)=true) (hq:hSees [41] r=false):Calls Tryz.prog 50 #[.pointer (some ⟨p,0,none⟩)] w (Ans ItV p z k (bItem z orr (t1 :: t2 :: t3 :: r)) w):=by
 have lp:=h.lt
 have htk:=h.tk
 have b0:Below w.heap.size w (w.alloc (.cells zItem.toArray 46)):=ext_alloc (ext_refl _) _
 have N0:=zH (BkA.new w zItem 46)
 have HP0:=zH (h.below b0)
 have B0:=zH b0
 have HR:bItem z orr (t1 :: t2 :: t3 :: r)=.err 7 (hAt z r):=by unfold bItem;rw[ha];dsimp only;unfold need;refine (if_pos hp1).trans ?_;dsimp only[List.tail_cons];refine (if_pos ⟨rfl,hst⟩).trans ?_;exact if_neg (by rw[hq];decide)
 rw[HR]
 have AG:=agg_any p z k (t1 :: t2 :: t3 :: r) _ HP0.out
 have HHP1:=zH hp1
 have HHST:=zH hst
 have HHQ:=zH hq
 have HHA:=zH ha
 have HAG:=zH AG
 have HCC:=zH hC
 clear htk h b0 HR AG hC hp1 hst hq ha
 go_enter Tryz.func50,Tryz.ntmps50
 go_wp2_with fail
 refine HAG.out.mono ?_
 intro e V hA
 obtain⟨rfl,hP,hO⟩:=hA.some HHA.out
 have NV:=zH (N0.out.outs hO (by omega))
 have PV:=zH ((Out.of (S:=fun j=>j=p∨w.heap.size≤j) B0.out).trans hO.up)
 have HPV:=zH hP
 have hwV:w.heap.size<V.heap.size:=NV.out.lt
 clear hA hP hO
 go_wp2_with fail
 refine (need_yes p z k t2 (t3 :: r) [40] V HPV.out HHP1.out).mono ?_
 rintro e X ⟨rfl,hP,hO⟩
 have hpX:p<X.heap.size:=hP.lt
 have NX:=NV.out.outs hO (by omega)
 have PX:=PV.out.trans hO.up
 have hwX:w.heap.size<X.heap.size:=NX.lt
 have b1:Below X.heap.size X (X.alloc (.cells #[.int .i64 2,.int .i64 0,.int .i64 0,.int .i64 0,.string ⟨#[]⟩,.int .i64 0,.int .i64 0,.int .i64 0,.string ⟨#[]⟩,.slice none 0 0] 46)):=ext_alloc (ext_refl _) _
 have NB:=BkA.new X (.int .i64 2 :: zExpr) 46
 have HPU:=hP.below b1
 have NXU:=NX.on b1
 obtain⟨U,hU⟩:∃ U,U=X.alloc (.cells #[.int .i64 2,.int .i64 0,.int .i64 0,.int .i64 0,.string ⟨#[]⟩,.int .i64 0,.int .i64 0,.int .i64 0,.string ⟨#[]⟩,.slice none 0 0] 46):=⟨_,rfl⟩
 rw[← hU] at b1 HPU NXU
 have NB:BkA U X.heap.size (.int .i64 2 :: zExpr):=by rw[hU];exact NB
 have HU:=zH hU
 have HPU:=zH HPU
 have NXU:=zH NXU
 have NB:=zH NB
 have PU:=zH (PX.trans (Out.of b1))
 have hXU:X.heap.size<U.heap.size:=NB.out.lt
 clear hP hO NX PX hU b1
 go_upto_region 6 with fail
 rw[← HU.out]
 clear HU
 go_wp2_with fail
 refine (take_yes p z k t3 r [42] U HPU.out HHST.out).mono ?_
 rintro e Y ⟨rfl,hP,hO⟩
 have NBY:=NB.out.outs hO (by omega)
 have HPY:=zH hP
 have NY:=zH (NXU.out.outs hO (by omega))
 have PY:=zH (PU.out.trans hO.up)
 have hXY:X.heap.size<Y.heap.size:=NBY.lt
 obtain⟨c0,c1,c2,c3,c4,c5,c6,c7,c8,c9⟩:=NBY.c10_ rfl
 have fz:=NBY.fz
 clear hP hO
 go_upto_region 9 with fail
 have OM:=Out.set (S:=fun j=>j=X.heap.size) (a:=Y) ⟨X.heap.size,0,none⟩ (.int .i64 1) rfl
 obtain⟨M,hM⟩:∃ M,M=Y.setCell ⟨X.heap.size,0,none⟩ (.int .i64 1):=⟨_,rfl⟩
 have m0:M.cell? ⟨X.heap.size,0,none⟩=some (.int .i64 1):=by rw[hM];exact cell_set_self c0
 have m1:M.cell? ⟨X.heap.size,1,none⟩=some (.int .i64 0):=by rw[hM,World.cell?_setCell_other _ _ _ _ (by simp)];exact c1
 have m2:M.cell? ⟨X.heap.size,2,none⟩=some (.int .i64 0):=by rw[hM,World.cell?_setCell_other _ _ _ _ (by simp)];exact c2
 have m3:M.cell? ⟨X.heap.size,3,none⟩=some (.int .i64 0):=by rw[hM,World.cell?_setCell_other _ _ _ _ (by simp)];exact c3
 have m4:M.cell? ⟨X.heap.size,4,none⟩=some (.string ⟨#[]⟩):=by rw[hM,World.cell?_setCell_other _ _ _ _ (by simp)];exact c4
 have m5:M.cell? ⟨X.heap.size,5,none⟩=some (.int .i64 0):=by rw[hM,World.cell?_setCell_other _ _ _ _ (by simp)];exact c5
 have m6:M.cell? ⟨X.heap.size,6,none⟩=some (.int .i64 0):=by rw[hM,World.cell?_setCell_other _ _ _ _ (by simp)];exact c6
 have m7:M.cell? ⟨X.heap.size,7,none⟩=some (.int .i64 0):=by rw[hM,World.cell?_setCell_other _ _ _ _ (by simp)];exact c7
 have m8:M.cell? ⟨X.heap.size,8,none⟩=some (.string ⟨#[]⟩):=by rw[hM,World.cell?_setCell_other _ _ _ _ (by simp)];exact c8
 have m9:M.cell? ⟨X.heap.size,9,none⟩=some (.slice none 0 0):=by rw[hM,World.cell?_setCell_other _ _ _ _ (by simp)];exact c9
 have fzM:∀ o,M.frozen? ⟨X.heap.size,o,none⟩=false:=fun o=>by rw[hM,World.frozen?_setCell];exact fz o
 have HM:=zH hM
 rw[← hM] at OM
 rw[← hM]
 have HPM:=zH (HPY.out.outs OM (fun j hj=>by omega))
 have NM:=zH (NY.out.outs OM (by omega))
 have PM:=zH (PY.out.trans (OM.mono fun j _ hj=>.inr (by omega)))
 have hXM:X.heap.size<M.heap.size:=Nat.lt_of_lt_of_le hXY OM.size
 have NBM:=zH (show BkA M X.heap.size (.int .i64 1 :: zExpr) from ⟨hXM,fun k u hu=>by
  match k,hu with
  | 0,hu=>cases hu;exact m0
  | 1,hu=>cases hu;exact m1
  | 2,hu=>cases hu;exact m2
  | 3,hu=>cases hu;exact m3
  | 4,hu=>cases hu;exact m4
  | 5,hu=>cases hu;exact m5
  | 6,hu=>cases hu;exact m6
  | 7,hu=>cases hu;exact m7
  | 8,hu=>cases hu;exact m8
  | 9,hu=>cases hu;exact m9
  | k+10,hu=>simp at hu,fzM⟩)
 clear m0 c0 m1 c1 m2 c2 m3 c3 m4 c4 m5 c5 m6 c6 m7 c7 m8 c8 m9 c9 fz fzM OM HM hM
 go_wp2_with fail
 refine (need_no p z k r [41] M HPM.out HHQ.out).mono ?_
 rintro e Z ⟨rfl,hE,hO⟩
 go_wp2_with fail
 exact⟨rfl,Ans.mkErr rfl hE (Out.down (PM.out.trans hO.up))⟩
set_option maxHeartbeats 4000000 in
theorem item_C_yes (p z k:Nat) (orr:Rd Ex) (hC:RdC 52 p z k orr) (t1 t2 t3 t4:Tok) (r:List Tok) (w:World) (h:PSt w p z (t1 :: t2 :: t3 :: t4 :: r) k) (ha:opOf opsAgg (t1 :: t2 :: t3 :: t4 :: r)=some 2) (hp1:hSees [40] (t2 :: t3 :: t4 :: r)=true) (hst:hSees [42] (t3 :: t4 :: r)=true) (hq:hSees [41] (t4 :: r)=true):Calls Tryz.prog 50 #[.pointer (some ⟨p,0,none⟩)] w (Ans ItV p z k (bItem z orr (t1 :: t2 :: t3 :: t4 :: r)) w):=by
 have lp:=h.lt
 have htk:=h.tk
 have b0:Below w.heap.size w (w.alloc (.cells zItem.toArray 46)):=ext_alloc (ext_refl _) _
 have N0:=zH (BkA.new w zItem 46)
 have HP0:=zH (h.below b0)
 have B0:=zH b0
 have HR:bItem z orr (t1 :: t2 :: t3 :: t4 :: r)=.ok ⟨1,exZ⟩ r:=by unfold bItem;rw[ha];dsimp only;unfold need;refine (if_pos hp1).trans ?_;dsimp only[List.tail_cons];refine (if_pos ⟨rfl,hst⟩).trans ?_;exact if_pos hq
 rw[HR]
 have AG:=agg_any p z k (t1 :: t2 :: t3 :: t4 :: r) _ HP0.out
 have HHP1:=zH hp1
 have HHST:=zH hst
 have HHQ:=zH hq
 have HHA:=zH ha
 have HAG:=zH AG
 have HCC:=zH hC
 clear htk h b0 HR AG hC hp1 hst hq ha
 go_enter Tryz.func50,Tryz.ntmps50
 go_wp2_with fail
 refine HAG.out.mono ?_
 intro e V hA
 obtain⟨rfl,hP,hO⟩:=hA.some HHA.out
 have NV:=zH (N0.out.outs hO (by omega))
 have PV:=zH ((Out.of (S:=fun j=>j=p∨w.heap.size≤j) B0.out).trans hO.up)
 have HPV:=zH hP
 have hwV:w.heap.size<V.heap.size:=NV.out.lt
 clear hA hP hO
 go_wp2_with fail
 refine (need_yes p z k t2 (t3 :: t4 :: r) [40] V HPV.out HHP1.out).mono ?_
 rintro e X ⟨rfl,hP,hO⟩
 have hpX:p<X.heap.size:=hP.lt
 have NX:=NV.out.outs hO (by omega)
 have PX:=PV.out.trans hO.up
 have hwX:w.heap.size<X.heap.size:=NX.lt
 have b1:Below X.heap.size X (X.alloc (.cells #[.int .i64 2,.int .i64 0,.int .i64 0,.int .i64 0,.string ⟨#[]⟩,.int .i64 0,.int .i64 0,.int .i64 0,.string ⟨#[]⟩,.slice none 0 0] 46)):=ext_alloc (ext_refl _) _
 have NB:=BkA.new X (.int .i64 2 :: zExpr) 46
 have HPU:=hP.below b1
 have NXU:=NX.on b1
 obtain⟨U,hU⟩:∃ U,U=X.alloc (.cells #[.int .i64 2,.int .i64 0,.int .i64 0,.int .i64 0,.string ⟨#[]⟩,.int .i64 0,.int .i64 0,.int .i64 0,.string ⟨#[]⟩,.slice none 0 0] 46):=⟨_,rfl⟩
 rw[← hU] at b1 HPU NXU
 have NB:BkA U X.heap.size (.int .i64 2 :: zExpr):=by rw[hU];exact NB
 have HU:=zH hU
 have HPU:=zH HPU
 have NXU:=zH NXU
 have NB:=zH NB
 have PU:=zH (PX.trans (Out.of b1))
 have hXU:X.heap.size<U.heap.size:=NB.out.lt
 clear hP hO NX PX hU b1
 go_upto_region 6 with fail
 rw[← HU.out]
 clear HU
 go_wp2_with fail
 refine (take_yes p z k t3 (t4 :: r) [42] U HPU.out HHST.out).mono ?_
 rintro e Y ⟨rfl,hP,hO⟩
 have NBY:=NB.out.outs hO (by omega)
 have HPY:=zH hP
 have NY:=zH (NXU.out.outs hO (by omega))
 have PY:=zH (PU.out.trans hO.up)
 have hXY:X.heap.size<Y.heap.size:=NBY.lt
 obtain⟨c0,c1,c2,c3,c4,c5,c6,c7,c8,c9⟩:=NBY.c10_ rfl
 have fz:=NBY.fz
 clear hP hO
 go_upto_region 9 with fail
 have OM:=Out.set (S:=fun j=>j=X.heap.size) (a:=Y) ⟨X.heap.size,0,none⟩ (.int .i64 1) rfl
 obtain⟨M,hM⟩:∃ M,M=Y.setCell ⟨X.heap.size,0,none⟩ (.int .i64 1):=⟨_,rfl⟩
 have m0:M.cell? ⟨X.heap.size,0,none⟩=some (.int .i64 1):=by rw[hM];exact cell_set_self c0
 have m1:M.cell? ⟨X.heap.size,1,none⟩=some (.int .i64 0):=by rw[hM,World.cell?_setCell_other _ _ _ _ (by simp)];exact c1
 have m2:M.cell? ⟨X.heap.size,2,none⟩=some (.int .i64 0):=by rw[hM,World.cell?_setCell_other _ _ _ _ (by simp)];exact c2
 have m3:M.cell? ⟨X.heap.size,3,none⟩=some (.int .i64 0):=by rw[hM,World.cell?_setCell_other _ _ _ _ (by simp)];exact c3
 have m4:M.cell? ⟨X.heap.size,4,none⟩=some (.string ⟨#[]⟩):=by rw[hM,World.cell?_setCell_other _ _ _ _ (by simp)];exact c4
 have m5:M.cell? ⟨X.heap.size,5,none⟩=some (.int .i64 0):=by rw[hM,World.cell?_setCell_other _ _ _ _ (by simp)];exact c5
 have m6:M.cell? ⟨X.heap.size,6,none⟩=some (.int .i64 0):=by rw[hM,World.cell?_setCell_other _ _ _ _ (by simp)];exact c6
 have m7:M.cell? ⟨X.heap.size,7,none⟩=some (.int .i64 0):=by rw[hM,World.cell?_setCell_other _ _ _ _ (by simp)];exact c7
 have m8:M.cell? ⟨X.heap.size,8,none⟩=some (.string ⟨#[]⟩):=by rw[hM,World.cell?_setCell_other _ _ _ _ (by simp)];exact c8
 have m9:M.cell? ⟨X.heap.size,9,none⟩=some (.slice none 0 0):=by rw[hM,World.cell?_setCell_other _ _ _ _ (by simp)];exact c9
 have fzM:∀ o,M.frozen? ⟨X.heap.size,o,none⟩=false:=fun o=>by rw[hM,World.frozen?_setCell];exact fz o
 have HM:=zH hM
 rw[← hM] at OM
 rw[← hM]
 have HPM:=zH (HPY.out.outs OM (fun j hj=>by omega))
 have NM:=zH (NY.out.outs OM (by omega))
 have PM:=zH (PY.out.trans (OM.mono fun j _ hj=>.inr (by omega)))
 have hXM:X.heap.size<M.heap.size:=Nat.lt_of_lt_of_le hXY OM.size
 have NBM:=zH (show BkA M X.heap.size (.int .i64 1 :: zExpr) from ⟨hXM,fun k u hu=>by
  match k,hu with
  | 0,hu=>cases hu;exact m0
  | 1,hu=>cases hu;exact m1
  | 2,hu=>cases hu;exact m2
  | 3,hu=>cases hu;exact m3
  | 4,hu=>cases hu;exact m4
  | 5,hu=>cases hu;exact m5
  | 6,hu=>cases hu;exact m6
  | 7,hu=>cases hu;exact m7
  | 8,hu=>cases hu;exact m8
  | 9,hu=>cases hu;exact m9
  | k+10,hu=>simp at hu,fzM⟩)
 clear m0 c0 m1 c1 m2 c2 m3 c3 m4 c4 m5 c5 m6 c6 m7 c7 m8 c8 m9 c9 fz fzM OM HM hM
 go_wp2_with fail
 refine (need_yes p z k t4 r [41] M HPM.out HHQ.out).mono ?_
 rintro e Z ⟨rfl,hP,hO⟩
 have NBZ:=NBM.out.outs hO (by omega)
 have NZ:=NM.out.outs hO (by omega)
 obtain⟨c0,c1,c2,c3,c4,c5,c6,c7,c8,c9⟩:=NBZ.c10_ rfl
 have fz:=NBZ.fz
 have ltb:=NBZ.lt
 obtain⟨d0,d1,d2,d3,d4,d5,d6,d7,d8,d9⟩:=NZ.c10_ rfl
 have fzr:=NZ.fz
 have ltr:=NZ.lt
 have o:=out10 Z w.heap.size (.int .i64 1) (.int .i64 0) (.int .i64 0) (.int .i64 0) (.string ⟨#[]⟩) (.int .i64 0) (.int .i64 0) (.int .i64 0) (.string ⟨#[]⟩) (.slice none 0 0)
 have HF:=zH (fin_st (gr:=w.heap.size) (Nat.le_refl _) lp hP (PM.out.trans hO.up) o)
 clear hP hO NZ NBZ o
 go_wp2_with fail
 exact bodyPost_ret (v:=.agg #[.int .i64 1,.int .i64 0,.int .i64 0,.int .i64 0,.string ⟨#[]⟩,.int .i64 0,.int .i64 0,.int .i64 0,.string ⟨#[]⟩,.slice none 0 0]) (by simp[results,Tryz.results50,go_sem,d0,d1,d2,d3,d4,d5,d6,d7,d8,d9]) rfl (Ans.mkOk rfl (itv_star _ _) HF.out.1 HF.out.2)
set_option maxHeartbeats 4000000 in
theorem item_D_True_err (p z k:Nat) (orr:Rd Ex) (hC:RdC 52 p z k orr) (t1 t2:Tok) (l:List Tok) (w:World) (h:PSt w p z (t1 :: t2 :: l) k) (ha:opOf opsAgg (t1 :: t2 :: l)=some 2) (hp1:hSees [40] (t2 :: l)=true) (hst:hSees [42] l=false) (er a0:Nat) (hr:orr l=.err er a0):Calls Tryz.prog 50 #[.pointer (some ⟨p,0,none⟩)] w (Ans ItV p z k (bItem z orr (t1 :: t2 :: l)) w):=by
 have lp:=h.lt
 have htk:=h.tk
 have b0:Below w.heap.size w (w.alloc (.cells zItem.toArray 46)):=ext_alloc (ext_refl _) _
 have N0:=zH (BkA.new w zItem 46)
 have HP0:=zH (h.below b0)
 have B0:=zH b0
 have HR:bItem z orr (t1 :: t2 :: l)=.err er a0:=by unfold bItem;rw[ha];dsimp only;unfold need;refine (if_pos hp1).trans ?_;dsimp only[List.tail_cons];refine (if_neg (fun e=>by rw[hst] at e;exact absurd e.2 (by decide))).trans ?_;rw[hr];rfl
 rw[HR]
 have AG:=agg_any p z k (t1 :: t2 :: l) _ HP0.out
 have HHR:=zH hr
 have HHP1:=zH hp1
 have HHST:=zH hst
 have HHA:=zH ha
 have HAG:=zH AG
 have HCC:=zH hC
 clear htk h b0 HR AG hC hr hp1 hst ha
 go_enter Tryz.func50,Tryz.ntmps50
 go_wp2_with fail
 refine HAG.out.mono ?_
 intro e V hA
 obtain⟨rfl,hP,hO⟩:=hA.some HHA.out
 have NV:=zH (N0.out.outs hO (by omega))
 have PV:=zH ((Out.of (S:=fun j=>j=p∨w.heap.size≤j) B0.out).trans hO.up)
 have HPV:=zH hP
 have hwV:w.heap.size<V.heap.size:=NV.out.lt
 clear hA hP hO
 go_wp2_with fail
 refine (need_yes p z k t2 l [40] V HPV.out HHP1.out).mono ?_
 rintro e X ⟨rfl,hP,hO⟩
 have hpX:p<X.heap.size:=hP.lt
 have NX:=NV.out.outs hO (by omega)
 have PX:=PV.out.trans hO.up
 have hwX:w.heap.size<X.heap.size:=NX.lt
 have b1:Below X.heap.size X (X.alloc (.cells #[.int .i64 2,.int .i64 0,.int .i64 0,.int .i64 0,.string ⟨#[]⟩,.int .i64 0,.int .i64 0,.int .i64 0,.string ⟨#[]⟩,.slice none 0 0] 46)):=ext_alloc (ext_refl _) _
 have NB:=BkA.new X (.int .i64 2 :: zExpr) 46
 have HPU:=hP.below b1
 have NXU:=NX.on b1
 obtain⟨U,hU⟩:∃ U,U=X.alloc (.cells #[.int .i64 2,.int .i64 0,.int .i64 0,.int .i64 0,.string ⟨#[]⟩,.int .i64 0,.int .i64 0,.int .i64 0,.string ⟨#[]⟩,.slice none 0 0] 46):=⟨_,rfl⟩
 rw[← hU] at b1 HPU NXU
 have NB:BkA U X.heap.size (.int .i64 2 :: zExpr):=by rw[hU];exact NB
 have HU:=zH hU
 have HPU:=zH HPU
 have NXU:=zH NXU
 have NB:=zH NB
 have PU:=zH (PX.trans (Out.of b1))
 have hXU:X.heap.size<U.heap.size:=NB.out.lt
 clear hP hO NX PX hU b1
 go_upto_region 6 with fail
 rw[← HU.out]
 clear HU
 go_wp2_with fail
 refine (take_no p z k l [42] U HPU.out HHST.out).mono ?_
 rintro e U2 ⟨rfl,hb⟩
 have HPW:=zH (HPU.out.below hb)
 have NW:=zH (NXU.out.on hb)
 have NBW:=zH (NB.out.on hb)
 have PW:=zH (PU.out.trans (Out.of hb))
 have hXW:X.heap.size<U2.heap.size:=NBW.out.lt
 clear hb
 have CC:=zH (HCC.out l U2 HPW.out)
 go_wp2_with fail
 refine CC.out.mono ?_
 intro e Y hA
 obtain⟨rfl,hE,hO⟩:=hA.err HHR.out
 go_wp2_with fail
 exact⟨rfl,Ans.mkErr rfl hE (Out.down (PW.out.trans hO.up))⟩
set_option maxHeartbeats 4000000 in
theorem item_D_True_no (p z k:Nat) (orr:Rd Ex) (hC:RdC 52 p z k orr) (t1 t2:Tok) (l:List Tok) (w:World) (h:PSt w p z (t1 :: t2 :: l) k) (ha:opOf opsAgg (t1 :: t2 :: l)=some 2) (hp1:hSees [40] (t2 :: l)=true) (hst:hSees [42] l=false) (x:Ex) (r:List Tok) (hr:orr l=.ok x r) (hq:hSees [41] r=false):Calls Tryz.prog 50 #[.pointer (some ⟨p,0,none⟩)] w (Ans ItV p z k (bItem z orr (t1 :: t2 :: l)) w):=by
 have lp:=h.lt
 have htk:=h.tk
 have b0:Below w.heap.size w (w.alloc (.cells zItem.toArray 46)):=ext_alloc (ext_refl _) _
 have N0:=zH (BkA.new w zItem 46)
 have HP0:=zH (h.below b0)
 have B0:=zH b0
 have HR:bItem z orr (t1 :: t2 :: l)=.err 7 (hAt z r):=by unfold bItem;rw[ha];dsimp only;unfold need;refine (if_pos hp1).trans ?_;dsimp only[List.tail_cons];refine (if_neg (fun e=>by rw[hst] at e;exact absurd e.2 (by decide))).trans ?_;rw[hr];exact if_neg (by rw[hq];decide)
 rw[HR]
 have AG:=agg_any p z k (t1 :: t2 :: l) _ HP0.out
 have HHR:=zH hr
 have HHP1:=zH hp1
 have HHST:=zH hst
 have HHQ:=zH hq
 have HHA:=zH ha
 have HAG:=zH AG
 have HCC:=zH hC
 clear htk h b0 HR AG hC hr hp1 hst hq ha
 go_enter Tryz.func50,Tryz.ntmps50
 go_wp2_with fail
 refine HAG.out.mono ?_
 intro e V hA
 obtain⟨rfl,hP,hO⟩:=hA.some HHA.out
 have NV:=zH (N0.out.outs hO (by omega))
 have PV:=zH ((Out.of (S:=fun j=>j=p∨w.heap.size≤j) B0.out).trans hO.up)
 have HPV:=zH hP
 have hwV:w.heap.size<V.heap.size:=NV.out.lt
 clear hA hP hO
 go_wp2_with fail
 refine (need_yes p z k t2 l [40] V HPV.out HHP1.out).mono ?_
 rintro e X ⟨rfl,hP,hO⟩
 have hpX:p<X.heap.size:=hP.lt
 have NX:=NV.out.outs hO (by omega)
 have PX:=PV.out.trans hO.up
 have hwX:w.heap.size<X.heap.size:=NX.lt
 have b1:Below X.heap.size X (X.alloc (.cells #[.int .i64 2,.int .i64 0,.int .i64 0,.int .i64 0,.string ⟨#[]⟩,.int .i64 0,.int .i64 0,.int .i64 0,.string ⟨#[]⟩,.slice none 0 0] 46)):=ext_alloc (ext_refl _) _
 have NB:=BkA.new X (.int .i64 2 :: zExpr) 46
 have HPU:=hP.below b1
 have NXU:=NX.on b1
 obtain⟨U,hU⟩:∃ U,U=X.alloc (.cells #[.int .i64 2,.int .i64 0,.int .i64 0,.int .i64 0,.string ⟨#[]⟩,.int .i64 0,.int .i64 0,.int .i64 0,.string ⟨#[]⟩,.slice none 0 0] 46):=⟨_,rfl⟩
 rw[← hU] at b1 HPU NXU
 have NB:BkA U X.heap.size (.int .i64 2 :: zExpr):=by rw[hU];exact NB
 have HU:=zH hU
 have HPU:=zH HPU
 have NXU:=zH NXU
 have NB:=zH NB
 have PU:=zH (PX.trans (Out.of b1))
 have hXU:X.heap.size<U.heap.size:=NB.out.lt
 clear hP hO NX PX hU b1
 go_upto_region 6 with fail
 rw[← HU.out]
 clear HU
 go_wp2_with fail
 refine (take_no p z k l [42] U HPU.out HHST.out).mono ?_
 rintro e U2 ⟨rfl,hb⟩
 have HPW:=zH (HPU.out.below hb)
 have NW:=zH (NXU.out.on hb)
 have NBW:=zH (NB.out.on hb)
 have PW:=zH (PU.out.trans (Out.of hb))
 have hXW:X.heap.size<U2.heap.size:=NBW.out.lt
 clear hb
 have CC:=zH (HCC.out l U2 HPW.out)
 go_wp2_with fail
 refine CC.out.mono ?_
 intro e Y hA
 obtain⟨⟨v,rfl,⟨⟨fop,⟨fvk,fvn,fvs⟩,frel,fcol,fn,fs,fq,flen,fc⟩,rfl,hx⟩⟩,hP,hO⟩:=hA.ok HHR.out
 have NBY:=NBW.out.outs hO (by omega)
 have NY:=NW.out.outs hO (by omega)
 have HPY:=zH hP
 have PY:=zH (PW.out.trans hO.up)
 have hXY:X.heap.size<Y.heap.size:=NBY.lt
 have HX:=zH (ExMP.on (Q:=fun j=>X.heap.size<j) (Nat.le_refl _) (fun _ _ _=>rfl) (fun j hj _=>by omega) _ _ hx)
 have NYH:=zH NY
 obtain⟨c0,c1,c2,c3,c4,c5,c6,c7,c8,c9⟩:=NBY.c10_ rfl
 have fz:=NBY.fz
 clear hA hx hP hO NY
 go_upto_region 9 with fail
 have OM:=out9s Y X.heap.size (.int .i64 fop) (.int .i64 fvk) (.int .i64 fvn) (.string fvs) (.int .i64 frel) (.int .i64 fcol) (.int .i64 fn) (.string fs) (.slice fq flen fc)
 obtain⟨M,hM⟩:∃ M,M=(((((((((Y.setCell ⟨X.heap.size,1,none⟩ (.int .i64 fop)).setCell ⟨X.heap.size,2,none⟩ (.int .i64 fvk)).setCell ⟨X.heap.size,3,none⟩ (.int .i64 fvn)).setCell ⟨X.heap.size,4,none⟩ (.string fvs)).setCell ⟨X.heap.size,5,none⟩ (.int .i64 frel)).setCell ⟨X.heap.size,6,none⟩ (.int .i64 fcol)).setCell ⟨X.heap.size,7,none⟩ (.int .i64 fn)).setCell ⟨X.heap.size,8,none⟩ (.string fs)).setCell ⟨X.heap.size,9,none⟩ (.slice fq flen fc)):=⟨_,rfl⟩
 have m0:M.cell? ⟨X.heap.size,0,none⟩=some (.int .i64 2):=by rw[hM];simp[go_sem,c0]
 have m1:M.cell? ⟨X.heap.size,1,none⟩=some (.int .i64 fop):=by rw[hM];simp[go_sem,c1]
 have m2:M.cell? ⟨X.heap.size,2,none⟩=some (.int .i64 fvk):=by rw[hM];simp[go_sem,c2]
 have m3:M.cell? ⟨X.heap.size,3,none⟩=some (.int .i64 fvn):=by rw[hM];simp[go_sem,c3]
 have m4:M.cell? ⟨X.heap.size,4,none⟩=some (.string fvs):=by rw[hM];simp[go_sem,c4]
 have m5:M.cell? ⟨X.heap.size,5,none⟩=some (.int .i64 frel):=by rw[hM];simp[go_sem,c5]
 have m6:M.cell? ⟨X.heap.size,6,none⟩=some (.int .i64 fcol):=by rw[hM];simp[go_sem,c6]
 have m7:M.cell? ⟨X.heap.size,7,none⟩=some (.int .i64 fn):=by rw[hM];simp[go_sem,c7]
 have m8:M.cell? ⟨X.heap.size,8,none⟩=some (.string fs):=by rw[hM];simp[go_sem,c8]
 have m9:M.cell? ⟨X.heap.size,9,none⟩=some (.slice fq flen fc):=by rw[hM];simp[go_sem,c9]
 have fzM:∀ o,M.frozen? ⟨X.heap.size,o,none⟩=false:=fun o=>by rw[hM];simp only[World.frozen?_setCell];exact fz o
 rw[← hM] at OM
 rw[← hM]
 have HPM:=zH (HPY.out.outs OM (fun j hj=>by omega))
 have NM:=zH (NYH.out.outs OM (by omega))
 have PM:=zH (PY.out.trans (OM.mono fun j _ hj=>.inr (by omega)))
 have hXM:X.heap.size<M.heap.size:=Nat.lt_of_lt_of_le hXY OM.size
 have HXM:=zH (ExMP.on (Q:=fun j=>X.heap.size<j) OM.size (fun j hj hl=>OM.block j hl (fun (e:j=X.heap.size)=>by omega)) (fun _ h _=>h) _ _ HX.out)
 have NBM:=zH (show BkA M X.heap.size [.int .i64 2,.int .i64 fop,.int .i64 fvk,.int .i64 fvn,.string fvs,.int .i64 frel,.int .i64 fcol,.int .i64 fn,.string fs,.slice fq flen fc] from ⟨hXM,fun k u hu=>by
  match k,hu with
  | 0,hu=>cases hu;exact m0
  | 1,hu=>cases hu;exact m1
  | 2,hu=>cases hu;exact m2
  | 3,hu=>cases hu;exact m3
  | 4,hu=>cases hu;exact m4
  | 5,hu=>cases hu;exact m5
  | 6,hu=>cases hu;exact m6
  | 7,hu=>cases hu;exact m7
  | 8,hu=>cases hu;exact m8
  | 9,hu=>cases hu;exact m9
  | k+10,hu=>simp at hu,fzM⟩)
 clear m0 c0 m1 c1 m2 c2 m3 c3 m4 c4 m5 c5 m6 c6 m7 c7 m8 c8 m9 c9 fz fzM OM hM
 go_wp2_with fail
 refine (need_no p z k r [41] M HPM.out HHQ.out).mono ?_
 rintro e Z ⟨rfl,hE,hO⟩
 go_wp2_with fail
 exact⟨rfl,Ans.mkErr rfl hE (Out.down (PM.out.trans hO.up))⟩
set_option maxHeartbeats 4000000 in
theorem item_D_True_yes (p z k:Nat) (orr:Rd Ex) (hC:RdC 52 p z k orr) (t1 t2:Tok) (l:List Tok) (w:World) (h:PSt w p z (t1 :: t2 :: l) k) (ha:opOf opsAgg (t1 :: t2 :: l)=some 2) (hp1:hSees [40] (t2 :: l)=true) (hst:hSees [42] l=false) (x:Ex) (t4:Tok) (r:List Tok) (hr:orr l=.ok x (t4 :: r)) (hq:hSees [41] (t4 :: r)=true):Calls Tryz.prog 50 #[.pointer (some ⟨p,0,none⟩)] w (Ans ItV p z k (bItem z orr (t1 :: t2 :: l)) w):=by
 have lp:=h.lt
 have htk:=h.tk
 have b0:Below w.heap.size w (w.alloc (.cells zItem.toArray 46)):=ext_alloc (ext_refl _) _
 have N0:=zH (BkA.new w zItem 46)
 have HP0:=zH (h.below b0)
 have B0:=zH b0
 have HR:bItem z orr (t1 :: t2 :: l)=.ok ⟨2,x⟩ r:=by unfold bItem;rw[ha];dsimp only;unfold need;refine (if_pos hp1).trans ?_;dsimp only[List.tail_cons];refine (if_neg (fun e=>by rw[hst] at e;exact absurd e.2 (by decide))).trans ?_;rw[hr];exact if_pos hq
 rw[HR]
 have AG:=agg_any p z k (t1 :: t2 :: l) _ HP0.out
 have HHR:=zH hr
 have HHP1:=zH hp1
 have HHST:=zH hst
 have HHQ:=zH hq
 have HHA:=zH ha
 have HAG:=zH AG
 have HCC:=zH hC
 clear htk h b0 HR AG hC hr hp1 hst hq ha
 go_enter Tryz.func50,Tryz.ntmps50
 go_wp2_with fail
 refine HAG.out.mono ?_
 intro e V hA
 obtain⟨rfl,hP,hO⟩:=hA.some HHA.out
 have NV:=zH (N0.out.outs hO (by omega))
 have PV:=zH ((Out.of (S:=fun j=>j=p∨w.heap.size≤j) B0.out).trans hO.up)
 have HPV:=zH hP
 have hwV:w.heap.size<V.heap.size:=NV.out.lt
 clear hA hP hO
 go_wp2_with fail
 refine (need_yes p z k t2 l [40] V HPV.out HHP1.out).mono ?_
 rintro e X ⟨rfl,hP,hO⟩
 have hpX:p<X.heap.size:=hP.lt
 have NX:=NV.out.outs hO (by omega)
 have PX:=PV.out.trans hO.up
 have hwX:w.heap.size<X.heap.size:=NX.lt
 have b1:Below X.heap.size X (X.alloc (.cells #[.int .i64 2,.int .i64 0,.int .i64 0,.int .i64 0,.string ⟨#[]⟩,.int .i64 0,.int .i64 0,.int .i64 0,.string ⟨#[]⟩,.slice none 0 0] 46)):=ext_alloc (ext_refl _) _
 have NB:=BkA.new X (.int .i64 2 :: zExpr) 46
 have HPU:=hP.below b1
 have NXU:=NX.on b1
 obtain⟨U,hU⟩:∃ U,U=X.alloc (.cells #[.int .i64 2,.int .i64 0,.int .i64 0,.int .i64 0,.string ⟨#[]⟩,.int .i64 0,.int .i64 0,.int .i64 0,.string ⟨#[]⟩,.slice none 0 0] 46):=⟨_,rfl⟩
 rw[← hU] at b1 HPU NXU
 have NB:BkA U X.heap.size (.int .i64 2 :: zExpr):=by rw[hU];exact NB
 have HU:=zH hU
 have HPU:=zH HPU
 have NXU:=zH NXU
 have NB:=zH NB
 have PU:=zH (PX.trans (Out.of b1))
 have hXU:X.heap.size<U.heap.size:=NB.out.lt
 clear hP hO NX PX hU b1
 go_upto_region 6 with fail
 rw[← HU.out]
 clear HU
 go_wp2_with fail
 refine (take_no p z k l [42] U HPU.out HHST.out).mono ?_
 rintro e U2 ⟨rfl,hb⟩
 have HPW:=zH (HPU.out.below hb)
 have NW:=zH (NXU.out.on hb)
 have NBW:=zH (NB.out.on hb)
 have PW:=zH (PU.out.trans (Out.of hb))
 have hXW:X.heap.size<U2.heap.size:=NBW.out.lt
 clear hb
 have CC:=zH (HCC.out l U2 HPW.out)
 go_wp2_with fail
 refine CC.out.mono ?_
 intro e Y hA
 obtain⟨⟨v,rfl,⟨⟨fop,⟨fvk,fvn,fvs⟩,frel,fcol,fn,fs,fq,flen,fc⟩,rfl,hx⟩⟩,hP,hO⟩:=hA.ok HHR.out
 have NBY:=NBW.out.outs hO (by omega)
 have NY:=NW.out.outs hO (by omega)
 have HPY:=zH hP
 have PY:=zH (PW.out.trans hO.up)
 have hXY:X.heap.size<Y.heap.size:=NBY.lt
 have HX:=zH (ExMP.on (Q:=fun j=>X.heap.size<j) (Nat.le_refl _) (fun _ _ _=>rfl) (fun j hj _=>by omega) _ _ hx)
 have NYH:=zH NY
 obtain⟨c0,c1,c2,c3,c4,c5,c6,c7,c8,c9⟩:=NBY.c10_ rfl
 have fz:=NBY.fz
 clear hA hx hP hO NY
 go_upto_region 9 with fail
 have OM:=out9s Y X.heap.size (.int .i64 fop) (.int .i64 fvk) (.int .i64 fvn) (.string fvs) (.int .i64 frel) (.int .i64 fcol) (.int .i64 fn) (.string fs) (.slice fq flen fc)
 obtain⟨M,hM⟩:∃ M,M=(((((((((Y.setCell ⟨X.heap.size,1,none⟩ (.int .i64 fop)).setCell ⟨X.heap.size,2,none⟩ (.int .i64 fvk)).setCell ⟨X.heap.size,3,none⟩ (.int .i64 fvn)).setCell ⟨X.heap.size,4,none⟩ (.string fvs)).setCell ⟨X.heap.size,5,none⟩ (.int .i64 frel)).setCell ⟨X.heap.size,6,none⟩ (.int .i64 fcol)).setCell ⟨X.heap.size,7,none⟩ (.int .i64 fn)).setCell ⟨X.heap.size,8,none⟩ (.string fs)).setCell ⟨X.heap.size,9,none⟩ (.slice fq flen fc)):=⟨_,rfl⟩
 have m0:M.cell? ⟨X.heap.size,0,none⟩=some (.int .i64 2):=by rw[hM];simp[go_sem,c0]
 have m1:M.cell? ⟨X.heap.size,1,none⟩=some (.int .i64 fop):=by rw[hM];simp[go_sem,c1]
 have m2:M.cell? ⟨X.heap.size,2,none⟩=some (.int .i64 fvk):=by rw[hM];simp[go_sem,c2]
 have m3:M.cell? ⟨X.heap.size,3,none⟩=some (.int .i64 fvn):=by rw[hM];simp[go_sem,c3]
 have m4:M.cell? ⟨X.heap.size,4,none⟩=some (.string fvs):=by rw[hM];simp[go_sem,c4]
 have m5:M.cell? ⟨X.heap.size,5,none⟩=some (.int .i64 frel):=by rw[hM];simp[go_sem,c5]
 have m6:M.cell? ⟨X.heap.size,6,none⟩=some (.int .i64 fcol):=by rw[hM];simp[go_sem,c6]
 have m7:M.cell? ⟨X.heap.size,7,none⟩=some (.int .i64 fn):=by rw[hM];simp[go_sem,c7]
 have m8:M.cell? ⟨X.heap.size,8,none⟩=some (.string fs):=by rw[hM];simp[go_sem,c8]
 have m9:M.cell? ⟨X.heap.size,9,none⟩=some (.slice fq flen fc):=by rw[hM];simp[go_sem,c9]
 have fzM:∀ o,M.frozen? ⟨X.heap.size,o,none⟩=false:=fun o=>by rw[hM];simp only[World.frozen?_setCell];exact fz o
 rw[← hM] at OM
 rw[← hM]
 have HPM:=zH (HPY.out.outs OM (fun j hj=>by omega))
 have NM:=zH (NYH.out.outs OM (by omega))
 have PM:=zH (PY.out.trans (OM.mono fun j _ hj=>.inr (by omega)))
 have hXM:X.heap.size<M.heap.size:=Nat.lt_of_lt_of_le hXY OM.size
 have HXM:=zH (ExMP.on (Q:=fun j=>X.heap.size<j) OM.size (fun j hj hl=>OM.block j hl (fun (e:j=X.heap.size)=>by omega)) (fun _ h _=>h) _ _ HX.out)
 have NBM:=zH (show BkA M X.heap.size [.int .i64 2,.int .i64 fop,.int .i64 fvk,.int .i64 fvn,.string fvs,.int .i64 frel,.int .i64 fcol,.int .i64 fn,.string fs,.slice fq flen fc] from ⟨hXM,fun k u hu=>by
  match k,hu with
  | 0,hu=>cases hu;exact m0
  | 1,hu=>cases hu;exact m1
  | 2,hu=>cases hu;exact m2
  | 3,hu=>cases hu;exact m3
  | 4,hu=>cases hu;exact m4
  | 5,hu=>cases hu;exact m5
  | 6,hu=>cases hu;exact m6
  | 7,hu=>cases hu;exact m7
  | 8,hu=>cases hu;exact m8
  | 9,hu=>cases hu;exact m9
  | k+10,hu=>simp at hu,fzM⟩)
 clear m0 c0 m1 c1 m2 c2 m3 c3 m4 c4 m5 c5 m6 c6 m7 c7 m8 c8 m9 c9 fz fzM OM hM
 go_wp2_with fail
 refine (need_yes p z k t4 r [41] M HPM.out HHQ.out).mono ?_
 rintro e Z ⟨rfl,hP,hO⟩
 have NBZ:=NBM.out.outs hO (by omega)
 have NZ:=NM.out.outs hO (by omega)
 obtain⟨c0,c1,c2,c3,c4,c5,c6,c7,c8,c9⟩:=NBZ.c10_ rfl
 have fz:=NBZ.fz
 have ltb:=NBZ.lt
 obtain⟨d0,d1,d2,d3,d4,d5,d6,d7,d8,d9⟩:=NZ.c10_ rfl
 have fzr:=NZ.fz
 have ltr:=NZ.lt
 have o:=out10 Z w.heap.size (.int .i64 2) (.int .i64 fop) (.int .i64 fvk) (.int .i64 fvn) (.string fvs) (.int .i64 frel) (.int .i64 fcol) (.int .i64 fn) (.string fs) (.slice fq flen fc)
 have hx:=ExMP.on (Q:=fun j=>w.heap.size≤j) (Nat.le_trans hO.size o.size) (fun j hj hl=>(o.block j (Nat.lt_of_lt_of_le hl hO.size) (fun (e:j=w.heap.size)=>by omega)).trans (hO.block j hl (fun (e:j=p)=>by omega))) (fun j hj _=>by omega) _ _ HXM.out
 have HF:=zH (And.intro (show ItV w.heap.size _ ⟨2,x⟩ (.agg #[.int .i64 2,.int .i64 fop,.int .i64 fvk,.int .i64 fvn,.string fvs,.int .i64 frel,.int .i64 fcol,.int .i64 fn,.string fs,.slice fq flen fc]) from ⟨⟨2,⟨fop,⟨fvk,fvn,fvs⟩,frel,fcol,fn,fs,fq,flen,fc⟩⟩,rfl,rfl,hx⟩) (fin_st (gr:=w.heap.size) (Nat.le_refl _) lp hP (PM.out.trans hO.up) o))
 clear hP hO NZ NBZ o hx
 go_wp2_with fail
 exact bodyPost_ret (v:=.agg #[.int .i64 2,.int .i64 fop,.int .i64 fvk,.int .i64 fvn,.string fvs,.int .i64 frel,.int .i64 fcol,.int .i64 fn,.string fs,.slice fq flen fc]) (by simp[results,Tryz.results50,go_sem,d0,d1,d2,d3,d4,d5,d6,d7,d8,d9]) rfl (Ans.mkOk rfl HF.out.1 HF.out.2.1 HF.out.2.2)
set_option maxHeartbeats 4000000 in
theorem item_D_False_err (p z k:Nat) (orr:Rd Ex) (hC:RdC 52 p z k orr) (t1 t2:Tok) (l:List Tok) (w:World) (h:PSt w p z (t1 :: t2 :: l) k) (a:Int) (ha2:a≠2) (ha:opOf opsAgg (t1 :: t2 :: l)=some a) (hp1:hSees [40] (t2 :: l)=true) (er a0:Nat) (hr:orr l=.err er a0):Calls Tryz.prog 50 #[.pointer (some ⟨p,0,none⟩)] w (Ans ItV p z k (bItem z orr (t1 :: t2 :: l)) w):=by
 have lp:=h.lt
 have htk:=h.tk
 have b0:Below w.heap.size w (w.alloc (.cells zItem.toArray 46)):=ext_alloc (ext_refl _) _
 have N0:=zH (BkA.new w zItem 46)
 have HP0:=zH (h.below b0)
 have B0:=zH b0
 have HR:bItem z orr (t1 :: t2 :: l)=.err er a0:=by unfold bItem;rw[ha];dsimp only;unfold need;refine (if_pos hp1).trans ?_;dsimp only[List.tail_cons];refine (if_neg (fun e=>ha2 e.1)).trans ?_;rw[hr];rfl
 rw[HR]
 have AG:=agg_any p z k (t1 :: t2 :: l) _ HP0.out
 have HHR:=zH hr
 have HHP1:=zH hp1
 have HHA:=zH ha
 have hne:(a == 2)=false:=by rw[beq_eq_false_iff_ne];exact ha2
 have hn0:(a == 0)=false:=by rw[beq_eq_false_iff_ne];exact agg_pos ha
 have HAG:=zH AG
 have HCC:=zH hC
 clear htk h b0 HR AG hC hr hp1 ha
 go_enter Tryz.func50,Tryz.ntmps50
 go_wp2_with fail
 refine HAG.out.mono ?_
 intro e V hA
 obtain⟨rfl,hP,hO⟩:=hA.some HHA.out
 have NV:=zH (N0.out.outs hO (by omega))
 have PV:=zH ((Out.of (S:=fun j=>j=p∨w.heap.size≤j) B0.out).trans hO.up)
 have HPV:=zH hP
 have hwV:w.heap.size<V.heap.size:=NV.out.lt
 clear hA hP hO
 go_wp2_with fail
 refine (need_yes p z k t2 l [40] V HPV.out HHP1.out).mono ?_
 rintro e X ⟨rfl,hP,hO⟩
 have hpX:p<X.heap.size:=hP.lt
 have NX:=NV.out.outs hO (by omega)
 have PX:=PV.out.trans hO.up
 have hwX:w.heap.size<X.heap.size:=NX.lt
 have b1:Below X.heap.size X (X.alloc (.cells #[.int .i64 a,.int .i64 0,.int .i64 0,.int .i64 0,.string ⟨#[]⟩,.int .i64 0,.int .i64 0,.int .i64 0,.string ⟨#[]⟩,.slice none 0 0] 46)):=ext_alloc (ext_refl _) _
 have NB:=BkA.new X (.int .i64 a :: zExpr) 46
 have HPU:=hP.below b1
 have NXU:=NX.on b1
 obtain⟨U,hU⟩:∃ U,U=X.alloc (.cells #[.int .i64 a,.int .i64 0,.int .i64 0,.int .i64 0,.string ⟨#[]⟩,.int .i64 0,.int .i64 0,.int .i64 0,.string ⟨#[]⟩,.slice none 0 0] 46):=⟨_,rfl⟩
 rw[← hU] at b1 HPU NXU
 have NB:BkA U X.heap.size (.int .i64 a :: zExpr):=by rw[hU];exact NB
 have HU:=zH hU
 have HPU:=zH HPU
 have NXU:=zH NXU
 have NB:=zH NB
 have PU:=zH (PX.trans (Out.of b1))
 have hXU:X.heap.size<U.heap.size:=NB.out.lt
 clear hP hO NX PX hU b1
 go_upto_region 6 with fail
 rw[← HU.out]
 clear HU
 have HPW:=HPU
 have NW:=NXU
 have NBW:=NB
 have PW:=PU
 have hXW:=hXU
 have CC:=zH (HCC.out l U HPW.out)
 go_wp2_with fail
 refine CC.out.mono ?_
 intro e Y hA
 obtain⟨rfl,hE,hO⟩:=hA.err HHR.out
 go_wp2_with fail
 exact⟨rfl,Ans.mkErr rfl hE (Out.down (PW.out.trans hO.up))⟩
set_option maxHeartbeats 4000000 in
theorem item_D_False_no (p z k:Nat) (orr:Rd Ex) (hC:RdC 52 p z k orr) (t1 t2:Tok) (l:List Tok) (w:World) (h:PSt w p z (t1 :: t2 :: l) k) (a:Int) (ha2:a≠2) (ha:opOf opsAgg (t1 :: t2 :: l)=some a) (hp1:hSees [40] (t2 :: l)=true) (x:Ex) (r:List Tok) (hr:orr l=.ok x r) (hq:hSees [41] r=false):Calls Tryz.prog 50 #[.pointer (some ⟨p,0,none⟩)] w (Ans ItV p z k (bItem z orr (t1 :: t2 :: l)) w):=by
 have lp:=h.lt
 have htk:=h.tk
 have b0:Below w.heap.size w (w.alloc (.cells zItem.toArray 46)):=ext_alloc (ext_refl _) _
 have N0:=zH (BkA.new w zItem 46)
 have HP0:=zH (h.below b0)
 have B0:=zH b0
 have HR:bItem z orr (t1 :: t2 :: l)=.err 7 (hAt z r):=by unfold bItem;rw[ha];dsimp only;unfold need;refine (if_pos hp1).trans ?_;dsimp only[List.tail_cons];refine (if_neg (fun e=>ha2 e.1)).trans ?_;rw[hr];exact if_neg (by rw[hq];decide)
 rw[HR]
 have AG:=agg_any p z k (t1 :: t2 :: l) _ HP0.out
 have HHR:=zH hr
 have HHP1:=zH hp1
 have HHQ:=zH hq
 have HHA:=zH ha
 have hne:(a == 2)=false:=by rw[beq_eq_false_iff_ne];exact ha2
 have hn0:(a == 0)=false:=by rw[beq_eq_false_iff_ne];exact agg_pos ha
 have HAG:=zH AG
 have HCC:=zH hC
 clear htk h b0 HR AG hC hr hp1 hq ha
 go_enter Tryz.func50,Tryz.ntmps50
 go_wp2_with fail
 refine HAG.out.mono ?_
 intro e V hA
 obtain⟨rfl,hP,hO⟩:=hA.some HHA.out
 have NV:=zH (N0.out.outs hO (by omega))
 have PV:=zH ((Out.of (S:=fun j=>j=p∨w.heap.size≤j) B0.out).trans hO.up)
 have HPV:=zH hP
 have hwV:w.heap.size<V.heap.size:=NV.out.lt
 clear hA hP hO
 go_wp2_with fail
 refine (need_yes p z k t2 l [40] V HPV.out HHP1.out).mono ?_
 rintro e X ⟨rfl,hP,hO⟩
 have hpX:p<X.heap.size:=hP.lt
 have NX:=NV.out.outs hO (by omega)
 have PX:=PV.out.trans hO.up
 have hwX:w.heap.size<X.heap.size:=NX.lt
 have b1:Below X.heap.size X (X.alloc (.cells #[.int .i64 a,.int .i64 0,.int .i64 0,.int .i64 0,.string ⟨#[]⟩,.int .i64 0,.int .i64 0,.int .i64 0,.string ⟨#[]⟩,.slice none 0 0] 46)):=ext_alloc (ext_refl _) _
 have NB:=BkA.new X (.int .i64 a :: zExpr) 46
 have HPU:=hP.below b1
 have NXU:=NX.on b1
 obtain⟨U,hU⟩:∃ U,U=X.alloc (.cells #[.int .i64 a,.int .i64 0,.int .i64 0,.int .i64 0,.string ⟨#[]⟩,.int .i64 0,.int .i64 0,.int .i64 0,.string ⟨#[]⟩,.slice none 0 0] 46):=⟨_,rfl⟩
 rw[← hU] at b1 HPU NXU
 have NB:BkA U X.heap.size (.int .i64 a :: zExpr):=by rw[hU];exact NB
 have HU:=zH hU
 have HPU:=zH HPU
 have NXU:=zH NXU
 have NB:=zH NB
 have PU:=zH (PX.trans (Out.of b1))
 have hXU:X.heap.size<U.heap.size:=NB.out.lt
 clear hP hO NX PX hU b1
 go_upto_region 6 with fail
 rw[← HU.out]
 clear HU
 have HPW:=HPU
 have NW:=NXU
 have NBW:=NB
 have PW:=PU
 have hXW:=hXU
 have CC:=zH (HCC.out l U HPW.out)
 go_wp2_with fail
 refine CC.out.mono ?_
 intro e Y hA
 obtain⟨⟨v,rfl,⟨⟨fop,⟨fvk,fvn,fvs⟩,frel,fcol,fn,fs,fq,flen,fc⟩,rfl,hx⟩⟩,hP,hO⟩:=hA.ok HHR.out
 have NBY:=NBW.out.outs hO (by omega)
 have NY:=NW.out.outs hO (by omega)
 have HPY:=zH hP
 have PY:=zH (PW.out.trans hO.up)
 have hXY:X.heap.size<Y.heap.size:=NBY.lt
 have HX:=zH (ExMP.on (Q:=fun j=>X.heap.size<j) (Nat.le_refl _) (fun _ _ _=>rfl) (fun j hj _=>by omega) _ _ hx)
 have NYH:=zH NY
 obtain⟨c0,c1,c2,c3,c4,c5,c6,c7,c8,c9⟩:=NBY.c10_ rfl
 have fz:=NBY.fz
 clear hA hx hP hO NY
 go_upto_region 9 with fail
 have OM:=out9s Y X.heap.size (.int .i64 fop) (.int .i64 fvk) (.int .i64 fvn) (.string fvs) (.int .i64 frel) (.int .i64 fcol) (.int .i64 fn) (.string fs) (.slice fq flen fc)
 obtain⟨M,hM⟩:∃ M,M=(((((((((Y.setCell ⟨X.heap.size,1,none⟩ (.int .i64 fop)).setCell ⟨X.heap.size,2,none⟩ (.int .i64 fvk)).setCell ⟨X.heap.size,3,none⟩ (.int .i64 fvn)).setCell ⟨X.heap.size,4,none⟩ (.string fvs)).setCell ⟨X.heap.size,5,none⟩ (.int .i64 frel)).setCell ⟨X.heap.size,6,none⟩ (.int .i64 fcol)).setCell ⟨X.heap.size,7,none⟩ (.int .i64 fn)).setCell ⟨X.heap.size,8,none⟩ (.string fs)).setCell ⟨X.heap.size,9,none⟩ (.slice fq flen fc)):=⟨_,rfl⟩
 have m0:M.cell? ⟨X.heap.size,0,none⟩=some (.int .i64 a):=by rw[hM];simp[go_sem,c0]
 have m1:M.cell? ⟨X.heap.size,1,none⟩=some (.int .i64 fop):=by rw[hM];simp[go_sem,c1]
 have m2:M.cell? ⟨X.heap.size,2,none⟩=some (.int .i64 fvk):=by rw[hM];simp[go_sem,c2]
 have m3:M.cell? ⟨X.heap.size,3,none⟩=some (.int .i64 fvn):=by rw[hM];simp[go_sem,c3]
 have m4:M.cell? ⟨X.heap.size,4,none⟩=some (.string fvs):=by rw[hM];simp[go_sem,c4]
 have m5:M.cell? ⟨X.heap.size,5,none⟩=some (.int .i64 frel):=by rw[hM];simp[go_sem,c5]
 have m6:M.cell? ⟨X.heap.size,6,none⟩=some (.int .i64 fcol):=by rw[hM];simp[go_sem,c6]
 have m7:M.cell? ⟨X.heap.size,7,none⟩=some (.int .i64 fn):=by rw[hM];simp[go_sem,c7]
 have m8:M.cell? ⟨X.heap.size,8,none⟩=some (.string fs):=by rw[hM];simp[go_sem,c8]
 have m9:M.cell? ⟨X.heap.size,9,none⟩=some (.slice fq flen fc):=by rw[hM];simp[go_sem,c9]
 have fzM:∀ o,M.frozen? ⟨X.heap.size,o,none⟩=false:=fun o=>by rw[hM];simp only[World.frozen?_setCell];exact fz o
 rw[← hM] at OM
 rw[← hM]
 have HPM:=zH (HPY.out.outs OM (fun j hj=>by omega))
 have NM:=zH (NYH.out.outs OM (by omega))
 have PM:=zH (PY.out.trans (OM.mono fun j _ hj=>.inr (by omega)))
 have hXM:X.heap.size<M.heap.size:=Nat.lt_of_lt_of_le hXY OM.size
 have HXM:=zH (ExMP.on (Q:=fun j=>X.heap.size<j) OM.size (fun j hj hl=>OM.block j hl (fun (e:j=X.heap.size)=>by omega)) (fun _ h _=>h) _ _ HX.out)
 have NBM:=zH (show BkA M X.heap.size [.int .i64 a,.int .i64 fop,.int .i64 fvk,.int .i64 fvn,.string fvs,.int .i64 frel,.int .i64 fcol,.int .i64 fn,.string fs,.slice fq flen fc] from ⟨hXM,fun k u hu=>by
  match k,hu with
  | 0,hu=>cases hu;exact m0
  | 1,hu=>cases hu;exact m1
  | 2,hu=>cases hu;exact m2
  | 3,hu=>cases hu;exact m3
  | 4,hu=>cases hu;exact m4
  | 5,hu=>cases hu;exact m5
  | 6,hu=>cases hu;exact m6
  | 7,hu=>cases hu;exact m7
  | 8,hu=>cases hu;exact m8
  | 9,hu=>cases hu;exact m9
  | k+10,hu=>simp at hu,fzM⟩)
 clear m0 c0 m1 c1 m2 c2 m3 c3 m4 c4 m5 c5 m6 c6 m7 c7 m8 c8 m9 c9 fz fzM OM hM
 go_wp2_with fail
 refine (need_no p z k r [41] M HPM.out HHQ.out).mono ?_
 rintro e Z ⟨rfl,hE,hO⟩
 go_wp2_with fail
 exact⟨rfl,Ans.mkErr rfl hE (Out.down (PM.out.trans hO.up))⟩
set_option maxHeartbeats 4000000 in
theorem item_D_False_yes (p z k:Nat) (orr:Rd Ex) (hC:RdC 52 p z k orr) (t1 t2:Tok) (l:List Tok) (w:World) (h:PSt w p z (t1 :: t2 :: l) k) (a:Int) (ha2:a≠2) (ha:opOf opsAgg (t1 :: t2 :: l)=some a) (hp1:hSees [40] (t2 :: l)=true) (x:Ex) (t4:Tok) (r:List Tok) (hr:orr l=.ok x (t4 :: r)) (hq:hSees [41] (t4 :: r)=true):Calls Tryz.prog 50 #[.pointer (some ⟨p,0,none⟩)] w (Ans ItV p z k (bItem z orr (t1 :: t2 :: l)) w):=by
 have lp:=h.lt
 have htk:=h.tk
 have b0:Below w.heap.size w (w.alloc (.cells zItem.toArray 46)):=ext_alloc (ext_refl _) _
 have N0:=zH (BkA.new w zItem 46)
 have HP0:=zH (h.below b0)
 have B0:=zH b0
 have HR:bItem z orr (t1 :: t2 :: l)=.ok ⟨a,x⟩ r:=by unfold bItem;rw[ha];dsimp only;unfold need;refine (if_pos hp1).trans ?_;dsimp only[List.tail_cons];refine (if_neg (fun e=>ha2 e.1)).trans ?_;rw[hr];exact if_pos hq
 rw[HR]
 have AG:=agg_any p z k (t1 :: t2 :: l) _ HP0.out
 have HHR:=zH hr
 have HHP1:=zH hp1
 have HHQ:=zH hq
 have HHA:=zH ha
 have hne:(a == 2)=false:=by rw[beq_eq_false_iff_ne];exact ha2
 have hn0:(a == 0)=false:=by rw[beq_eq_false_iff_ne];exact agg_pos ha
 have HAG:=zH AG
 have HCC:=zH hC
 clear htk h b0 HR AG hC hr hp1 hq ha
 go_enter Tryz.func50,Tryz.ntmps50
 go_wp2_with fail
 refine HAG.out.mono ?_
 intro e V hA
 obtain⟨rfl,hP,hO⟩:=hA.some HHA.out
 have NV:=zH (N0.out.outs hO (by omega))
 have PV:=zH ((Out.of (S:=fun j=>j=p∨w.heap.size≤j) B0.out).trans hO.up)
 have HPV:=zH hP
 have hwV:w.heap.size<V.heap.size:=NV.out.lt
 clear hA hP hO
 go_wp2_with fail
 refine (need_yes p z k t2 l [40] V HPV.out HHP1.out).mono ?_
 rintro e X ⟨rfl,hP,hO⟩
 have hpX:p<X.heap.size:=hP.lt
 have NX:=NV.out.outs hO (by omega)
 have PX:=PV.out.trans hO.up
 have hwX:w.heap.size<X.heap.size:=NX.lt
 have b1:Below X.heap.size X (X.alloc (.cells #[.int .i64 a,.int .i64 0,.int .i64 0,.int .i64 0,.string ⟨#[]⟩,.int .i64 0,.int .i64 0,.int .i64 0,.string ⟨#[]⟩,.slice none 0 0] 46)):=ext_alloc (ext_refl _) _
 have NB:=BkA.new X (.int .i64 a :: zExpr) 46
 have HPU:=hP.below b1
 have NXU:=NX.on b1
 obtain⟨U,hU⟩:∃ U,U=X.alloc (.cells #[.int .i64 a,.int .i64 0,.int .i64 0,.int .i64 0,.string ⟨#[]⟩,.int .i64 0,.int .i64 0,.int .i64 0,.string ⟨#[]⟩,.slice none 0 0] 46):=⟨_,rfl⟩
 rw[← hU] at b1 HPU NXU
 have NB:BkA U X.heap.size (.int .i64 a :: zExpr):=by rw[hU];exact NB
 have HU:=zH hU
 have HPU:=zH HPU
 have NXU:=zH NXU
 have NB:=zH NB
 have PU:=zH (PX.trans (Out.of b1))
 have hXU:X.heap.size<U.heap.size:=NB.out.lt
 clear hP hO NX PX hU b1
 go_upto_region 6 with fail
 rw[← HU.out]
 clear HU
 have HPW:=HPU
 have NW:=NXU
 have NBW:=NB
 have PW:=PU
 have hXW:=hXU
 have CC:=zH (HCC.out l U HPW.out)
 go_wp2_with fail
 refine CC.out.mono ?_
 intro e Y hA
 obtain⟨⟨v,rfl,⟨⟨fop,⟨fvk,fvn,fvs⟩,frel,fcol,fn,fs,fq,flen,fc⟩,rfl,hx⟩⟩,hP,hO⟩:=hA.ok HHR.out
 have NBY:=NBW.out.outs hO (by omega)
 have NY:=NW.out.outs hO (by omega)
 have HPY:=zH hP
 have PY:=zH (PW.out.trans hO.up)
 have hXY:X.heap.size<Y.heap.size:=NBY.lt
 have HX:=zH (ExMP.on (Q:=fun j=>X.heap.size<j) (Nat.le_refl _) (fun _ _ _=>rfl) (fun j hj _=>by omega) _ _ hx)
 have NYH:=zH NY
 obtain⟨c0,c1,c2,c3,c4,c5,c6,c7,c8,c9⟩:=NBY.c10_ rfl
 have fz:=NBY.fz
 clear hA hx hP hO NY
 go_upto_region 9 with fail
 have OM:=out9s Y X.heap.size (.int .i64 fop) (.int .i64 fvk) (.int .i64 fvn) (.string fvs) (.int .i64 frel) (.int .i64 fcol) (.int .i64 fn) (.string fs) (.slice fq flen fc)
 obtain⟨M,hM⟩:∃ M,M=(((((((((Y.setCell ⟨X.heap.size,1,none⟩ (.int .i64 fop)).setCell ⟨X.heap.size,2,none⟩ (.int .i64 fvk)).setCell ⟨X.heap.size,3,none⟩ (.int .i64 fvn)).setCell ⟨X.heap.size,4,none⟩ (.string fvs)).setCell ⟨X.heap.size,5,none⟩ (.int .i64 frel)).setCell ⟨X.heap.size,6,none⟩ (.int .i64 fcol)).setCell ⟨X.heap.size,7,none⟩ (.int .i64 fn)).setCell ⟨X.heap.size,8,none⟩ (.string fs)).setCell ⟨X.heap.size,9,none⟩ (.slice fq flen fc)):=⟨_,rfl⟩
 have m0:M.cell? ⟨X.heap.size,0,none⟩=some (.int .i64 a):=by rw[hM];simp[go_sem,c0]
 have m1:M.cell? ⟨X.heap.size,1,none⟩=some (.int .i64 fop):=by rw[hM];simp[go_sem,c1]
 have m2:M.cell? ⟨X.heap.size,2,none⟩=some (.int .i64 fvk):=by rw[hM];simp[go_sem,c2]
 have m3:M.cell? ⟨X.heap.size,3,none⟩=some (.int .i64 fvn):=by rw[hM];simp[go_sem,c3]
 have m4:M.cell? ⟨X.heap.size,4,none⟩=some (.string fvs):=by rw[hM];simp[go_sem,c4]
 have m5:M.cell? ⟨X.heap.size,5,none⟩=some (.int .i64 frel):=by rw[hM];simp[go_sem,c5]
 have m6:M.cell? ⟨X.heap.size,6,none⟩=some (.int .i64 fcol):=by rw[hM];simp[go_sem,c6]
 have m7:M.cell? ⟨X.heap.size,7,none⟩=some (.int .i64 fn):=by rw[hM];simp[go_sem,c7]
 have m8:M.cell? ⟨X.heap.size,8,none⟩=some (.string fs):=by rw[hM];simp[go_sem,c8]
 have m9:M.cell? ⟨X.heap.size,9,none⟩=some (.slice fq flen fc):=by rw[hM];simp[go_sem,c9]
 have fzM:∀ o,M.frozen? ⟨X.heap.size,o,none⟩=false:=fun o=>by rw[hM];simp only[World.frozen?_setCell];exact fz o
 rw[← hM] at OM
 rw[← hM]
 have HPM:=zH (HPY.out.outs OM (fun j hj=>by omega))
 have NM:=zH (NYH.out.outs OM (by omega))
 have PM:=zH (PY.out.trans (OM.mono fun j _ hj=>.inr (by omega)))
 have hXM:X.heap.size<M.heap.size:=Nat.lt_of_lt_of_le hXY OM.size
 have HXM:=zH (ExMP.on (Q:=fun j=>X.heap.size<j) OM.size (fun j hj hl=>OM.block j hl (fun (e:j=X.heap.size)=>by omega)) (fun _ h _=>h) _ _ HX.out)
 have NBM:=zH (show BkA M X.heap.size [.int .i64 a,.int .i64 fop,.int .i64 fvk,.int .i64 fvn,.string fvs,.int .i64 frel,.int .i64 fcol,.int .i64 fn,.string fs,.slice fq flen fc] from ⟨hXM,fun k u hu=>by
  match k,hu with
  | 0,hu=>cases hu;exact m0
  | 1,hu=>cases hu;exact m1
  | 2,hu=>cases hu;exact m2
  | 3,hu=>cases hu;exact m3
  | 4,hu=>cases hu;exact m4
  | 5,hu=>cases hu;exact m5
  | 6,hu=>cases hu;exact m6
  | 7,hu=>cases hu;exact m7
  | 8,hu=>cases hu;exact m8
  | 9,hu=>cases hu;exact m9
  | k+10,hu=>simp at hu,fzM⟩)
 clear m0 c0 m1 c1 m2 c2 m3 c3 m4 c4 m5 c5 m6 c6 m7 c7 m8 c8 m9 c9 fz fzM OM hM
 go_wp2_with fail
 refine (need_yes p z k t4 r [41] M HPM.out HHQ.out).mono ?_
 rintro e Z ⟨rfl,hP,hO⟩
 have NBZ:=NBM.out.outs hO (by omega)
 have NZ:=NM.out.outs hO (by omega)
 obtain⟨c0,c1,c2,c3,c4,c5,c6,c7,c8,c9⟩:=NBZ.c10_ rfl
 have fz:=NBZ.fz
 have ltb:=NBZ.lt
 obtain⟨d0,d1,d2,d3,d4,d5,d6,d7,d8,d9⟩:=NZ.c10_ rfl
 have fzr:=NZ.fz
 have ltr:=NZ.lt
 have o:=out10 Z w.heap.size (.int .i64 a) (.int .i64 fop) (.int .i64 fvk) (.int .i64 fvn) (.string fvs) (.int .i64 frel) (.int .i64 fcol) (.int .i64 fn) (.string fs) (.slice fq flen fc)
 have hx:=ExMP.on (Q:=fun j=>w.heap.size≤j) (Nat.le_trans hO.size o.size) (fun j hj hl=>(o.block j (Nat.lt_of_lt_of_le hl hO.size) (fun (e:j=w.heap.size)=>by omega)).trans (hO.block j hl (fun (e:j=p)=>by omega))) (fun j hj _=>by omega) _ _ HXM.out
 have HF:=zH (And.intro (show ItV w.heap.size _ ⟨a,x⟩ (.agg #[.int .i64 a,.int .i64 fop,.int .i64 fvk,.int .i64 fvn,.string fvs,.int .i64 frel,.int .i64 fcol,.int .i64 fn,.string fs,.slice fq flen fc]) from ⟨⟨a,⟨fop,⟨fvk,fvn,fvs⟩,frel,fcol,fn,fs,fq,flen,fc⟩⟩,rfl,rfl,hx⟩) (fin_st (gr:=w.heap.size) (Nat.le_refl _) lp hP (PM.out.trans hO.up) o))
 clear hP hO NZ NBZ o hx
 go_wp2_with fail
 exact bodyPost_ret (v:=.agg #[.int .i64 a,.int .i64 fop,.int .i64 fvk,.int .i64 fvn,.string fvs,.int .i64 frel,.int .i64 fcol,.int .i64 fn,.string fs,.slice fq flen fc]) (by simp[results,Tryz.results50,go_sem,d0,d1,d2,d3,d4,d5,d6,d7,d8,d9]) rfl (Ans.mkOk rfl HF.out.1 HF.out.2.1 HF.out.2.2)
theorem item_any (p z k:Nat) (orr:Rd Ex) (hC:RdC 52 p z k orr) (l:List Tok) (w:World) (h:PSt w p z l k):Calls Tryz.prog 50 #[.pointer (some ⟨p,0,none⟩)] w (Ans ItV p z k (bItem z orr l) w):=by
 cases ha:opOf opsAgg l with
 | none =>
  cases hr:orr l with
  | err er a0=>exact item_A_err p z k orr hC l w h ha er a0 hr
  | ok x r=>exact item_A_ok p z k orr hC l w h ha x r hr
 | some a =>
  obtain⟨t1,l1,rfl⟩:=opOf_cons ha
  cases hp1:hSees [40] l1 with
  | false=>exact item_B p z k orr hC (t1 :: l1) w h a ha hp1
  | true =>
   obtain⟨t2,l2,rfl,-,-⟩:=sees_cons hp1
   by_cases hst:a=2∧hSees [42] l2=true
   ·obtain⟨rfl,hst⟩:=hst
    obtain⟨t3,r,rfl,-,-⟩:=sees_cons hst
    cases hq:hSees [41] r with
    | false=>exact item_C_no p z k orr hC t1 t2 t3 r w h ha hp1 hst hq
    | true =>
     obtain⟨t4,r2,rfl,-,-⟩:=sees_cons hq
     exact item_C_yes p z k orr hC t1 t2 t3 t4 r2 w h ha hp1 hst hq
   ·by_cases ha2:a=2
    ·subst ha2
     have hst:hSees [42] l2=false:=by
      cases hs:hSees [42] l2 with
      | false=>rfl
      | true=>exact absurd ⟨rfl,hs⟩ hst
     cases hr:orr l2 with
     | err er a0=>exact item_D_True_err p z k orr hC t1 t2 l2 w h ha hp1 hst er a0 hr
     | ok x r =>
      cases hq:hSees [41] r with
      | false=>exact item_D_True_no p z k orr hC t1 t2 l2 w h ha hp1 hst x r hr hq
      | true =>
       obtain⟨t4,r2,rfl,-,-⟩:=sees_cons hq
       exact item_D_True_yes p z k orr hC t1 t2 l2 w h ha hp1 hst x t4 r2 hr hq
    ·cases hr:orr l2 with
     | err er a0=>exact item_D_False_err p z k orr hC t1 t2 l2 w h a ha2 ha hp1 er a0 hr
     | ok x r =>
      cases hq:hSees [41] r with
      | false=>exact item_D_False_no p z k orr hC t1 t2 l2 w h a ha2 ha hp1 x r hr hq
      | true =>
       obtain⟨t4,r2,rfl,-,-⟩:=sees_cons hq
       exact item_D_False_yes p z k orr hC t1 t2 l2 w h a ha2 ha hp1 x t4 r2 hr hq
theorem set4 {X:World} {g:Nat} {u0 u1 u2 u3:Value} (h:BkA X g [u0,u1,u2,u3]) (k:Nat) (u:Value) (hk:k<4):BkA (X.setCell ⟨g,k,none⟩ u) g ([u0,u1,u2,u3].set k u):=by
 have o:=Out.set (S:=fun j=>j=g) (a:=X) ⟨g,k,none⟩ u rfl
 refine⟨Nat.lt_of_lt_of_le h.lt o.size,fun j v hv=>?_,fun i=>by rw[World.frozen?_setCell];exact h.fz i⟩
 by_cases hj:j=k
 ·subst hj
  rw[List.getElem?_set_self (by simpa using hk)] at hv
  cases hv
  obtain⟨u',hu'⟩:∃ u',[u0,u1,u2,u3][j]?=some u':=⟨_,List.getElem?_eq_getElem (by simpa using hk)⟩
  exact cell_set_self (h.c j u' hu')
 ·rw[List.getElem?_set_ne (fun e=>hj e.symm)] at hv
  rw[World.cell?_setCell_other _ _ _ _ (by first |(simp;done) |(simp;omega))]
  exact h.c j v hv
theorem fin_fr {w V:World} {P:Nat→Prop} {p z k gr b:Nat} {r:List Tok} {f:Fr} {t a:ByteArray} {kd:Int} {q:Option Addr} {n c:Nat} (hgr:w.heap.size≤gr) (hp:p<w.heap.size) (ht:t=bsB f.table) (ha:a=bsB f.alias) (hk:kd=f.kind) (hn:n=f.on.length) (hc:n≤c) (hx:ExLP V P q 0 f.on) (hb:∀ j,P j→b≤j∧j≠gr) (hP:PSt V p z r k) (hO:Out (fun j=>j=p∨w.heap.size≤j) w V) :
  FrV b ((((V.setCell ⟨gr,0,none⟩ (.string t)).setCell ⟨gr,1,none⟩ (.string a)).setCell ⟨gr,2,none⟩ (.int .i64 kd)).setCell ⟨gr,3,none⟩ (.slice q n c)) f (.agg #[.string t,.string a,.int .i64 kd,.slice q n c])∧PSt ((((V.setCell ⟨gr,0,none⟩ (.string t)).setCell ⟨gr,1,none⟩ (.string a)).setCell ⟨gr,2,none⟩ (.int .i64 kd)).setCell ⟨gr,3,none⟩ (.slice q n c)) p z r k∧Out (fun j=>j=p) w ((((V.setCell ⟨gr,0,none⟩ (.string t)).setCell ⟨gr,1,none⟩ (.string a)).setCell ⟨gr,2,none⟩ (.int .i64 kd)).setCell ⟨gr,3,none⟩ (.slice q n c)):=by
 have o:=out4 V gr (.string t) (.string a) (.int .i64 kd) (.slice q n c)
 exact⟨⟨⟨t,a,kd,q,n,c⟩,rfl,ht,ha,hk,hn,hc,ExLP.on o.size (fun j hj hl=>o.block j hl (hb j hj).2) (fun j hj _=>(hb j hj).1) _ _ _ hx⟩,fin_st hgr hp hP hO o⟩
set_option maxHeartbeats 4000000 in
theorem table_bad (p z k:Nat) (kind:Int) (ahead most:Nat) (l:List Tok) (hk:(hd z l).kd≠2) (w:World) (h:PSt w p z l k):Calls Tryz.prog 72 #[.pointer (some ⟨p,0,none⟩),.int .i64 kind,.int .i64 (ahead:Int),.int .i64 (most:Int)] w (Ans FrV p z k (bTable z kind ahead most l) w):=by
 have lp:=h.lt
 have htk:=h.tk
 have b0:Below w.heap.size w (w.alloc (.cells zFrom.toArray 40)):=ext_alloc (ext_refl _) _
 have N0:=zH (BkA.new w zFrom 40)
 have HP0:=zH (h.below b0)
 have B0:=zH b0
 have HR:bTable z kind ahead most l=.err 7 (hAt z l):=by
  cases l with
  | nil=>rfl
  | cons t r=>rw[bTable];exact if_neg hk
 rw[HR]
 have RD:=zH (read_no p z k l 2 _ HP0.out hk)
 clear htk h b0 hk HR
 go_enter Tryz.func72,Tryz.ntmps72
 go_wp2_with fail
 refine RD.out.mono ?_
 rintro e V ⟨rfl,hE,hO⟩
 go_wp2_with fail
 exact⟨rfl,Ans.mkErr rfl hE ((Out.of B0.out).trans hO)⟩
set_option maxHeartbeats 4000000 in
theorem table_full (p z k:Nat) (kind:Int) (ahead most:Nat) (t:Tok) (r:List Tok) (hk:t.kd=2) (ha:ahead=most) (w:World) (h:PSt w p z (t :: r) k):Calls Tryz.prog 72 #[.pointer (some ⟨p,0,none⟩),.int .i64 kind,.int .i64 (ahead:Int),.int .i64 (most:Int)] w (Ans FrV p z k (bTable z kind ahead most (t :: r)) w):=by
 have lp:=h.lt
 have htk:=h.tk
 have b0:Below w.heap.size w (w.alloc (.cells zFrom.toArray 40)):=ext_alloc (ext_refl _) _
 have N0:=zH (BkA.new w zFrom 40)
 have HP0:=zH (h.below b0)
 have B0:=zH b0
 have HR:bTable z kind ahead most (t :: r)=.err 5 t.at_:=by rw[bTable,if_pos hk,if_pos ha]
 rw[HR]
 obtain⟨kd,n,a,s⟩:=t
 simp only at hk
 subst hk
 have RD:=zH (read_yes p z k ⟨2,n,a,s⟩ r 2 _ HP0.out rfl)
 have hfull:((ahead:Int) == (most:Int))=true:=by rw[ha];simp
 clear htk h b0 HR ha
 go_enter Tryz.func72,Tryz.ntmps72
 go_wp2_with fail
 refine RD.out.mono ?_
 rintro e V ⟨rfl,hP,hO⟩
 have NV:=N0.out.outs hO (by omega)
 have PV:=(Out.of (S:=fun j=>j=p∨w.heap.size≤j) B0.out).trans hO.up
 have hwV:w.heap.size<V.heap.size:=NV.lt
 have b1:Below V.heap.size V (V.alloc (.cells #[.int .i64 2,.int .i64 (n:Int),.int .i64 (a:Int),.string (bsB s)] 55)):=ext_alloc (ext_refl _) _
 have NT:=BkA.new V [.int .i64 2,.int .i64 (n:Int),.int .i64 (a:Int),.string (bsB s)] 55
 have HPU:=zH (hP.below b1)
 have NVU:=zH (NV.on b1)
 have PU:=zH (PV.trans (Out.of b1))
 have NTH:=zH NT
 have OUF:=zH (hO.trans (Out.of b1))
 have B1:=zH b1
 clear hP hO RD NV PV NT b1
 go_wp2_with fail
 exact⟨rfl,Ans.mkErr rfl HPU.out.pe (Out.down PU.out)⟩
set_option maxHeartbeats 4000000 in
theorem table_alias (p z k:Nat) (kind:Int) (ahead most:Nat) (t t2:Tok) (r:List Tok) (hk:t.kd=2) (ha:ahead≠most) (hk2:t2.kd=2) (w:World) (h:PSt w p z (t :: t2 :: r) k):Calls Tryz.prog 72 #[.pointer (some ⟨p,0,none⟩),.int .i64 kind,.int .i64 (ahead:Int),.int .i64 (most:Int)] w (Ans FrV p z k (bTable z kind ahead most (t :: t2 :: r)) w):=by
 have lp:=h.lt
 have htk:=h.tk
 have b0:Below w.heap.size w (w.alloc (.cells zFrom.toArray 40)):=ext_alloc (ext_refl _) _
 have N0:=zH (BkA.new w zFrom 40)
 have HP0:=zH (h.below b0)
 have B0:=zH b0
 have HR:bTable z kind ahead most (t :: t2 :: r)=.ok ⟨t.s,t2.s,kind,[]⟩ r:=by rw[bTable,if_pos hk,if_neg ha,bAlias,if_pos hk2]
 rw[HR]
 obtain⟨kd,n,a,s⟩:=t
 simp only at hk
 subst hk
 have RD:=zH (read_yes p z k ⟨2,n,a,s⟩ (t2 :: r) 2 _ HP0.out rfl)
 have hfull:((ahead:Int) == (most:Int))=false:=by rw[beq_eq_false_iff_ne];omega
 have HK2:=zH hk2
 clear htk h b0 HR ha hk2
 go_enter Tryz.func72,Tryz.ntmps72
 go_wp2_with fail
 refine RD.out.mono ?_
 rintro e V ⟨rfl,hP,hO⟩
 have NV:=N0.out.outs hO (by omega)
 have PV:=(Out.of (S:=fun j=>j=p∨w.heap.size≤j) B0.out).trans hO.up
 have hwV:w.heap.size<V.heap.size:=NV.lt
 have b1:Below V.heap.size V (V.alloc (.cells #[.int .i64 2,.int .i64 (n:Int),.int .i64 (a:Int),.string (bsB s)] 55)):=ext_alloc (ext_refl _) _
 have NT:=BkA.new V [.int .i64 2,.int .i64 (n:Int),.int .i64 (a:Int),.string (bsB s)] 55
 have HPU:=zH (hP.below b1)
 have NVU:=zH (NV.on b1)
 have PU:=zH (PV.trans (Out.of b1))
 have NTH:=zH NT
 have OUF:=zH (hO.trans (Out.of b1))
 have B1:=zH b1
 clear hP hO RD NV PV NT b1
 obtain⟨U,hU⟩:∃ U,U=V.alloc (.cells #[.int .i64 2,.int .i64 (n:Int),.int .i64 (a:Int),.string (bsB s)] 55):=⟨_,rfl⟩
 rw[← hU] at HPU NVU PU NTH OUF B1
 have HU:=zH hU
 clear hU
 go_upto_region 2 with fail
 rw[← HU.out]
 clear HU
 have s3:=NTH.out.c 3 _ rfl
 have sl:=NTH.out.lt
 have b2:Below U.heap.size U (U.alloc (.cells #[.string (bsB s),.string (bsB s),.int .i64 kind,.slice none 0 0] 40)):=ext_alloc (ext_refl _) _
 have NF:=BkA.new U [.string (bsB s),.string (bsB s),.int .i64 kind,.slice none 0 0] 40
 have HPX:=zH (HPU.out.below b2)
 have NX:=zH (NVU.out.on b2)
 have PX:=zH (PU.out.trans (Out.of b2))
 have NFX:=zH NF
 have hVU:V.heap.size<U.heap.size:=sl
 have LK:=zH (look_any p z k (t2 :: r) _ HPX.out)
 obtain⟨kd2,n2,a2,s2⟩:=t2
 have hk2:kd2=2:=HK2.out
 subst hk2
 simp only[hd] at LK
 have hfk:=fun w=>Tryz.tokKind 2 n2 a2 (bsB s2) w
 clear b2 NF
 go_wp2_with fail
 refine LK.out.mono ?_
 rintro e Y ⟨rfl,hb⟩
 have HPY:=zH (HPX.out.below hb)
 have NY:=zH (NX.out.on hb)
 have NFY:=zH (NFX.out.on hb)
 have PY:=zH (PX.out.trans (Out.of hb))
 have hUY:U.heap.size<Y.heap.size:=NFY.out.lt
 clear hb LK s3 sl
 have RD2:=zH (read_yes p z k ⟨2,n2,a2,s2⟩ r 2 Y HPY.out rfl)
 have hfs:=fun w=>Tryz.tokS 2 n2 a2 (bsB s2) w
 go_wp2_with fail
 refine RD2.out.mono ?_
 rintro e Z ⟨rfl,hP,hO⟩
 have HPZ:=zH hP
 have NZ:=zH (NY.out.outs hO (by omega))
 have NFZ:=zH (NFY.out.outs hO (by omega))
 have PZ:=zH (PY.out.trans hO.up)
 have hUZ:U.heap.size<Z.heap.size:=NFZ.out.lt
 clear hP hO RD2
 obtain⟨c0,c1,c2,c3⟩:=NFZ.out.c4_ rfl
 have fz:=NFZ.out.fz
 have ltf:=NFZ.out.lt
 go_upto_region 7 with fail
 have OM:=Out.set (S:=fun j=>j=U.heap.size) (a:=Z) ⟨U.heap.size,1,none⟩ (.string (bsB s2)) rfl
 have NM:=set4 NFZ.out 1 (.string (bsB s2)) (by decide)
 obtain⟨M,hM⟩:∃ M,M=Z.setCell ⟨U.heap.size,1,none⟩ (.string (bsB s2)):=⟨_,rfl⟩
 rw[← hM] at OM NM
 rw[← hM]
 have HPM:=zH (HPZ.out.outs OM (fun j hj=>by omega))
 have NRM:=zH (NZ.out.outs OM (by omega))
 have PM:=zH (PZ.out.trans (OM.mono fun j _ hj=>.inr (by omega)))
 clear c0 c1 c2 c3 fz ltf OM hM
 obtain⟨c0,c1,c2,c3⟩:=NM.c4_ rfl
 have fz:=NM.fz
 have ltf:=NM.lt
 obtain⟨d0,d1,d2,d3⟩:=NRM.out.c4_ rfl
 have fzr:=NRM.out.fz
 have ltr:=NRM.out.lt
 clear NM
 have HF:=zH (fin_fr (w:=w) (V:=M) (P:=fun _=>False) (b:=w.heap.size) (gr:=w.heap.size) (f:=⟨s,s2,kind,[]⟩) (q:=none) (n:=0) (c:=0) (Nat.le_refl _) lp rfl rfl rfl rfl (Nat.le_refl _) (by rw[ExLP];trivial) (fun j hj=>hj.elim) HPM.out PM.out)
 go_wp2_with fail
 exact bodyPost_ret (v:=.agg #[.string (bsB s),.string (bsB s2),.int .i64 kind,.slice none 0 0]) (by simp[results,Tryz.results72,go_sem,d0,d1,d2,d3]) rfl (Ans.mkOk rfl HF.out.1 HF.out.2.1 HF.out.2.2)
set_option maxHeartbeats 4000000 in
theorem table_no (p z k:Nat) (kind:Int) (ahead most:Nat) (t:Tok) (r:List Tok) (hk:t.kd=2) (ha:ahead≠most) (hk2:(hd z r).kd≠2) (w:World) (h:PSt w p z (t :: r) k):Calls Tryz.prog 72 #[.pointer (some ⟨p,0,none⟩),.int .i64 kind,.int .i64 (ahead:Int),.int .i64 (most:Int)] w (Ans FrV p z k (bTable z kind ahead most (t :: r)) w):=by
 have lp:=h.lt
 have htk:=h.tk
 have b0:Below w.heap.size w (w.alloc (.cells zFrom.toArray 40)):=ext_alloc (ext_refl _) _
 have N0:=zH (BkA.new w zFrom 40)
 have HP0:=zH (h.below b0)
 have B0:=zH b0
 have HR:bTable z kind ahead most (t :: r)=.ok ⟨t.s,t.s,kind,[]⟩ r:=by rw[bTable,if_pos hk,if_neg ha];cases r with | nil=>rfl | cons u r=>rw[bAlias];exact if_neg hk2
 rw[HR]
 obtain⟨kd,n,a,s⟩:=t
 simp only at hk
 subst hk
 have RD:=zH (read_yes p z k ⟨2,n,a,s⟩ r 2 _ HP0.out rfl)
 have hfull:((ahead:Int) == (most:Int))=false:=by rw[beq_eq_false_iff_ne];omega
 have HK2:=zH hk2
 clear htk h b0 HR ha hk2
 go_enter Tryz.func72,Tryz.ntmps72
 go_wp2_with fail
 refine RD.out.mono ?_
 rintro e V ⟨rfl,hP,hO⟩
 have NV:=N0.out.outs hO (by omega)
 have PV:=(Out.of (S:=fun j=>j=p∨w.heap.size≤j) B0.out).trans hO.up
 have hwV:w.heap.size<V.heap.size:=NV.lt
 have b1:Below V.heap.size V (V.alloc (.cells #[.int .i64 2,.int .i64 (n:Int),.int .i64 (a:Int),.string (bsB s)] 55)):=ext_alloc (ext_refl _) _
 have NT:=BkA.new V [.int .i64 2,.int .i64 (n:Int),.int .i64 (a:Int),.string (bsB s)] 55
 have HPU:=zH (hP.below b1)
 have NVU:=zH (NV.on b1)
 have PU:=zH (PV.trans (Out.of b1))
 have NTH:=zH NT
 have OUF:=zH (hO.trans (Out.of b1))
 have B1:=zH b1
 clear hP hO RD NV PV NT b1
 obtain⟨U,hU⟩:∃ U,U=V.alloc (.cells #[.int .i64 2,.int .i64 (n:Int),.int .i64 (a:Int),.string (bsB s)] 55):=⟨_,rfl⟩
 rw[← hU] at HPU NVU PU NTH OUF B1
 have HU:=zH hU
 clear hU
 go_upto_region 2 with fail
 rw[← HU.out]
 clear HU
 have s3:=NTH.out.c 3 _ rfl
 have sl:=NTH.out.lt
 have b2:Below U.heap.size U (U.alloc (.cells #[.string (bsB s),.string (bsB s),.int .i64 kind,.slice none 0 0] 40)):=ext_alloc (ext_refl _) _
 have NF:=BkA.new U [.string (bsB s),.string (bsB s),.int .i64 kind,.slice none 0 0] 40
 have HPX:=zH (HPU.out.below b2)
 have NX:=zH (NVU.out.on b2)
 have PX:=zH (PU.out.trans (Out.of b2))
 have NFX:=zH NF
 have hVU:V.heap.size<U.heap.size:=sl
 have LK:=zH (look_any p z k r _ HPX.out)
 obtain⟨⟨kd2,n2,a2,s2⟩,ht⟩:∃ t2,t2=hd z r:=⟨_,rfl⟩
 rw[← ht] at LK HK2
 have hk2:((kd2:Int) == 2)=false:=by rw[beq_eq_false_iff_ne];have:kd2≠2:=HK2.out;omega
 have hfk:=fun w=>Tryz.tokKind kd2 n2 a2 (bsB s2) w
 clear ht
 clear b2 NF
 go_wp2_with fail
 refine LK.out.mono ?_
 rintro e Y ⟨rfl,hb⟩
 have HPY:=zH (HPX.out.below hb)
 have NY:=zH (NX.out.on hb)
 have NFY:=zH (NFX.out.on hb)
 have PY:=zH (PX.out.trans (Out.of hb))
 have hUY:U.heap.size<Y.heap.size:=NFY.out.lt
 clear hb LK s3 sl
 obtain⟨c0,c1,c2,c3⟩:=NFY.out.c4_ rfl
 have fz:=NFY.out.fz
 have ltf:=NFY.out.lt
 obtain⟨d0,d1,d2,d3⟩:=NY.out.c4_ rfl
 have fzr:=NY.out.fz
 have ltr:=NY.out.lt
 have HF:=zH (fin_fr (w:=w) (V:=Y) (P:=fun _=>False) (b:=w.heap.size) (gr:=w.heap.size) (f:=⟨s,s,kind,[]⟩) (q:=none) (n:=0) (c:=0) (Nat.le_refl _) lp rfl rfl rfl rfl (Nat.le_refl _) (by rw[ExLP];trivial) (fun j hj=>hj.elim) HPY.out PY.out)
 go_wp2_with fail
 exact bodyPost_ret (v:=.agg #[.string (bsB s),.string (bsB s),.int .i64 kind,.slice none 0 0]) (by simp[results,Tryz.results72,go_sem,d0,d1,d2,d3]) rfl (Ans.mkOk rfl HF.out.1 HF.out.2.1 HF.out.2.2)
theorem table_any (p z k:Nat) (kind:Int) (ahead most:Nat) (l:List Tok) (w:World) (h:PSt w p z l k):Calls Tryz.prog 72 #[.pointer (some ⟨p,0,none⟩),.int .i64 kind,.int .i64 (ahead:Int),.int .i64 (most:Int)] w (Ans FrV p z k (bTable z kind ahead most l) w):=by
 by_cases hk:(hd z l).kd=2
 ·cases l with
  | nil=>simp[hd,endTok] at hk
  | cons t r =>
   by_cases ha:ahead=most
   ·exact table_full p z k kind ahead most t r hk ha w h
   ·by_cases hk2:(hd z r).kd=2
    ·cases r with
     | nil=>simp[hd,endTok] at hk2
     | cons t2 r2=>exact table_alias p z k kind ahead most t t2 r2 hk ha hk2 w h
    ·exact table_no p z k kind ahead most t r hk ha hk2 w h
 ·exact table_bad p z k kind ahead most l hk w h
set_option maxHeartbeats 4000000 in
theorem join_nj (p z k:Nat) (orr:Rd Ex) (hC:RdC 52 p z k orr) (kind:Int) (ahead most:Nat) (l:List Tok) (hj:hSees kwJoin l=false) (w:World) (h:PSt w p z l k):Calls Tryz.prog 87 #[.pointer (some ⟨p,0,none⟩),.int .i64 kind,.int .i64 (ahead:Int),.int .i64 (most:Int)] w (Ans FrV p z k (bJoin z orr kind ahead most l) w):=by
 have lp:=h.lt
 have htk:=h.tk
 have b0:Below w.heap.size w (w.alloc (.cells zFrom.toArray 40)):=ext_alloc (ext_refl _) _
 have N0:=zH (BkA.new w zFrom 40)
 have HP0:=zH (h.below b0)
 have B0:=zH b0
 have HR:bJoin z orr kind ahead most l=.err 7 (hAt z l):=by unfold bJoin need;exact if_neg (by rw[hj];decide)
 rw[HR]
 have HCC:=zH hC
 have HHJ:=zH hj
 have ND:=zH (need_no p z k l kwJoin _ HP0.out hj)
 clear htk h b0 HR hC hj
 go_enter Tryz.func87,Tryz.ntmps87
 go_wp2_with fail
 refine ND.out.mono ?_
 rintro e V ⟨rfl,hE,hO⟩
 go_wp2_with fail
 exact⟨rfl,Ans.mkErr rfl hE ((Out.of B0.out).trans hO)⟩
set_option maxHeartbeats 4000000 in
theorem join_terr (p z k:Nat) (orr:Rd Ex) (hC:RdC 52 p z k orr) (kind:Int) (ahead most:Nat) (t0:Tok) (l:List Tok) (hj:hSees kwJoin (t0 :: l)=true) (er a0:Nat) (ht:bTable z kind ahead most l=.err er a0) (w:World) (h:PSt w p z (t0 :: l) k):Calls Tryz.prog 87 #[.pointer (some ⟨p,0,none⟩),.int .i64 kind,.int .i64 (ahead:Int),.int .i64 (most:Int)] w (Ans FrV p z k (bJoin z orr kind ahead most (t0 :: l)) w):=by
 have lp:=h.lt
 have htk:=h.tk
 have b0:Below w.heap.size w (w.alloc (.cells zFrom.toArray 40)):=ext_alloc (ext_refl _) _
 have N0:=zH (BkA.new w zFrom 40)
 have HP0:=zH (h.below b0)
 have B0:=zH b0
 have HR:bJoin z orr kind ahead most (t0 :: l)=.err er a0:=by unfold bJoin need;refine (if_pos hj).trans ?_;dsimp only[List.tail_cons];rw[ht];rfl
 rw[HR]
 have HCC:=zH hC
 have HHJ:=zH hj
 have HHT:=zH ht
 have ND:=zH (need_yes p z k t0 l kwJoin _ HP0.out hj)
 clear htk h b0 HR hC hj ht
 go_enter Tryz.func87,Tryz.ntmps87
 go_wp2_with fail
 refine ND.out.mono ?_
 rintro e V ⟨rfl,hP,hO⟩
 have NV:=zH (N0.out.outs hO (by omega))
 have PV:=zH ((Out.of (S:=fun j=>j=p∨w.heap.size≤j) B0.out).trans hO.up)
 have hwV:w.heap.size<V.heap.size:=NV.out.lt
 have TB:=zH (table_any p z k kind ahead most l V hP)
 clear hP hO ND
 go_wp2_with fail
 refine TB.out.mono ?_
 intro e X hA
 obtain⟨rfl,hE,hO⟩:=hA.err HHT.out
 go_wp2_with fail
 exact⟨rfl,Ans.mkErr rfl hE (Out.down (PV.out.trans hO.up))⟩
set_option maxHeartbeats 4000000 in
theorem join_non (p z k:Nat) (orr:Rd Ex) (hC:RdC 52 p z k orr) (kind:Int) (ahead most:Nat) (t0:Tok) (l:List Tok) (hj:hSees kwJoin (t0 :: l)=true) (f:Fr) (r:List Tok) (ht:bTable z kind ahead most l=.ok f r) (hn:hSees kwOn r=false) (w:World) (h:PSt w p z (t0 :: l) k):Calls Tryz.prog 87 #[.pointer (some ⟨p,0,none⟩),.int .i64 kind,.int .i64 (ahead:Int),.int .i64 (most:Int)] w (Ans FrV p z k (bJoin z orr kind ahead most (t0 :: l)) w):=by
 have lp:=h.lt
 have htk:=h.tk
 have b0:Below w.heap.size w (w.alloc (.cells zFrom.toArray 40)):=ext_alloc (ext_refl _) _
 have N0:=zH (BkA.new w zFrom 40)
 have HP0:=zH (h.below b0)
 have B0:=zH b0
 have HR:bJoin z orr kind ahead most (t0 :: l)=.err 7 (hAt z r):=by unfold bJoin need;refine (if_pos hj).trans ?_;dsimp only[List.tail_cons];rw[ht];exact if_neg (by rw[hn];decide)
 rw[HR]
 have HCC:=zH hC
 have HHJ:=zH hj
 have HHT:=zH ht
 have HHN:=zH hn
 have ND:=zH (need_yes p z k t0 l kwJoin _ HP0.out hj)
 clear htk h b0 HR hC hj ht hn
 go_enter Tryz.func87,Tryz.ntmps87
 go_wp2_with fail
 refine ND.out.mono ?_
 rintro e V ⟨rfl,hP,hO⟩
 have NV:=zH (N0.out.outs hO (by omega))
 have PV:=zH ((Out.of (S:=fun j=>j=p∨w.heap.size≤j) B0.out).trans hO.up)
 have hwV:w.heap.size<V.heap.size:=NV.out.lt
 have TB:=zH (table_any p z k kind ahead most l V hP)
 clear hP hO ND
 go_wp2_with fail
 refine TB.out.mono ?_
 intro e X hA
 obtain⟨⟨v,rfl,⟨⟨ft,fa,fk,fq,fn,fc⟩,rfl,hf1,hf2,hf3,-,-,-⟩⟩,hP,hO⟩:=hA.ok HHT.out
 have NX:=NV.out.outs hO (by omega)
 have PX:=PV.out.trans hO.up
 have hwX:w.heap.size<X.heap.size:=NX.lt
 have b1:Below X.heap.size X (X.alloc (.cells #[.string ft,.string fa,.int .i64 fk,.slice fq fn fc] 40)):=ext_alloc (ext_refl _) _
 have NF:=BkA.new X [.string ft,.string fa,.int .i64 fk,.slice fq fn fc] 40
 have HPU:=hP.below b1
 have NXU:=NX.on b1
 obtain⟨U,hU⟩:∃ U,U=X.alloc (.cells #[.string ft,.string fa,.int .i64 fk,.slice fq fn fc] 40):=⟨_,rfl⟩
 rw[← hU] at b1 NF HPU NXU
 have HU:=zH hU
 have HPU:=zH HPU
 have NXU:=zH NXU
 have NF:=zH NF
 have HF1:=zH hf1
 have HF2:=zH hf2
 have HF3:=zH hf3
 have PU:=zH (PX.trans (Out.of b1))
 have hXU:X.heap.size<U.heap.size:=NF.out.lt
 clear hP hO NX PX hU b1 hA TB hf1 hf2 hf3
 go_upto_region 3 with fail
 rw[← HU.out]
 clear HU
 go_wp2_with fail
 refine (need_no p z k r kwOn U HPU.out HHN.out).mono ?_
 rintro e Y ⟨rfl,hE,hO⟩
 go_wp2_with fail
 exact⟨rfl,Ans.mkErr rfl hE (Out.down (PU.out.trans hO.up))⟩
set_option maxHeartbeats 4000000 in
theorem join_oerr (p z k:Nat) (orr:Rd Ex) (hC:RdC 52 p z k orr) (kind:Int) (ahead most:Nat) (t0:Tok) (l:List Tok) (hj:hSees kwJoin (t0 :: l)=true) (f:Fr) (t1:Tok) (r:List Tok) (ht:bTable z kind ahead most l=.ok f (t1 :: r)) (hn:hSees kwOn (t1 :: r)=true) (er a0:Nat) (hr:orr r=.err er a0) (w:World) (h:PSt w p z (t0 :: l) k):Calls Tryz.prog 87 #[.pointer (some ⟨p,0,none⟩),.int .i64 kind,.int .i64 (ahead:Int),.int .i64 (most:Int)] w (Ans FrV p z k (bJoin z orr kind ahead most (t0 :: l)) w):=by
 have lp:=h.lt
 have htk:=h.tk
 have b0:Below w.heap.size w (w.alloc (.cells zFrom.toArray 40)):=ext_alloc (ext_refl _) _
 have N0:=zH (BkA.new w zFrom 40)
 have HP0:=zH (h.below b0)
 have B0:=zH b0
 have HR:bJoin z orr kind ahead most (t0 :: l)=.err er a0:=by unfold bJoin need;refine (if_pos hj).trans ?_;dsimp only[List.tail_cons];rw[ht];refine (if_pos hn).trans ?_;dsimp only[List.tail_cons];rw[hr];rfl
 rw[HR]
 have HCC:=zH hC
 have HHJ:=zH hj
 have HHT:=zH ht
 have HHN:=zH hn
 have HHR:=zH hr
 have ND:=zH (need_yes p z k t0 l kwJoin _ HP0.out hj)
 clear htk h b0 HR hC hj ht hn hr
 go_enter Tryz.func87,Tryz.ntmps87
 go_wp2_with fail
 refine ND.out.mono ?_
 rintro e V ⟨rfl,hP,hO⟩
 have NV:=zH (N0.out.outs hO (by omega))
 have PV:=zH ((Out.of (S:=fun j=>j=p∨w.heap.size≤j) B0.out).trans hO.up)
 have hwV:w.heap.size<V.heap.size:=NV.out.lt
 have TB:=zH (table_any p z k kind ahead most l V hP)
 clear hP hO ND
 go_wp2_with fail
 refine TB.out.mono ?_
 intro e X hA
 obtain⟨⟨v,rfl,⟨⟨ft,fa,fk,fq,fn,fc⟩,rfl,hf1,hf2,hf3,-,-,-⟩⟩,hP,hO⟩:=hA.ok HHT.out
 have NX:=NV.out.outs hO (by omega)
 have PX:=PV.out.trans hO.up
 have hwX:w.heap.size<X.heap.size:=NX.lt
 have b1:Below X.heap.size X (X.alloc (.cells #[.string ft,.string fa,.int .i64 fk,.slice fq fn fc] 40)):=ext_alloc (ext_refl _) _
 have NF:=BkA.new X [.string ft,.string fa,.int .i64 fk,.slice fq fn fc] 40
 have HPU:=hP.below b1
 have NXU:=NX.on b1
 obtain⟨U,hU⟩:∃ U,U=X.alloc (.cells #[.string ft,.string fa,.int .i64 fk,.slice fq fn fc] 40):=⟨_,rfl⟩
 rw[← hU] at b1 NF HPU NXU
 have HU:=zH hU
 have HPU:=zH HPU
 have NXU:=zH NXU
 have NF:=zH NF
 have HF1:=zH hf1
 have HF2:=zH hf2
 have HF3:=zH hf3
 have PU:=zH (PX.trans (Out.of b1))
 have hXU:X.heap.size<U.heap.size:=NF.out.lt
 clear hP hO NX PX hU b1 hA TB hf1 hf2 hf3
 go_upto_region 3 with fail
 rw[← HU.out]
 clear HU
 go_wp2_with fail
 refine (need_yes p z k t1 r kwOn U HPU.out HHN.out).mono ?_
 rintro e Y ⟨rfl,hP,hO⟩
 have hpX:p<X.heap.size:=by omega
 have NFY:=zH (NF.out.outs hO (by omega))
 have NY:=zH (NXU.out.outs hO (by omega))
 have PY:=zH (PU.out.trans hO.up)
 have hXY:X.heap.size<Y.heap.size:=NFY.out.lt
 have CC:=zH (HCC.out r Y hP)
 clear hP hO
 go_wp2_with fail
 refine CC.out.mono ?_
 intro e Z hA
 obtain⟨rfl,hE,hO⟩:=hA.err HHR.out
 go_wp2_with fail
 exact⟨rfl,Ans.mkErr rfl hE (Out.down (PY.out.trans hO.up))⟩
set_option maxHeartbeats 4000000 in
theorem join_ok (p z k:Nat) (orr:Rd Ex) (hC:RdC 52 p z k orr) (kind:Int) (ahead most:Nat) (t0:Tok) (l:List Tok) (hj:hSees kwJoin (t0 :: l)=true) (f:Fr) (t1:Tok) (r:List Tok) (ht:bTable z kind ahead most l=.ok f (t1 :: r)) (hn:hSees kwOn (t1 :: r)=true) (x:Ex) (r2:List Tok) (hr:orr r=.ok x r2) (w:World) (h:PSt w p z (t0 :: l) k):Calls Tryz.prog 87 #[.pointer (some ⟨p,0,none⟩),.int .i64 kind,.int .i64 (ahead:Int),.int .i64 (most:Int)] w (Ans FrV p z k (bJoin z orr kind ahead most (t0 :: l)) w):=by
 have lp:=h.lt
 have htk:=h.tk
 have b0:Below w.heap.size w (w.alloc (.cells zFrom.toArray 40)):=ext_alloc (ext_refl _) _
 have N0:=zH (BkA.new w zFrom 40)
 have HP0:=zH (h.below b0)
 have B0:=zH b0
 have HR:bJoin z orr kind ahead most (t0 :: l)=.ok { f with on:=[x] } r2:=by unfold bJoin need;refine (if_pos hj).trans ?_;dsimp only[List.tail_cons];rw[ht];refine (if_pos hn).trans ?_;dsimp only[List.tail_cons];rw[hr];rfl
 rw[HR]
 have HCC:=zH hC
 have HHJ:=zH hj
 have HHT:=zH ht
 have HHN:=zH hn
 have HHR:=zH hr
 have ND:=zH (need_yes p z k t0 l kwJoin _ HP0.out hj)
 clear htk h b0 HR hC hj ht hn hr
 go_enter Tryz.func87,Tryz.ntmps87
 go_wp2_with fail
 refine ND.out.mono ?_
 rintro e V ⟨rfl,hP,hO⟩
 have NV:=zH (N0.out.outs hO (by omega))
 have PV:=zH ((Out.of (S:=fun j=>j=p∨w.heap.size≤j) B0.out).trans hO.up)
 have hwV:w.heap.size<V.heap.size:=NV.out.lt
 have TB:=zH (table_any p z k kind ahead most l V hP)
 clear hP hO ND
 go_wp2_with fail
 refine TB.out.mono ?_
 intro e X hA
 obtain⟨⟨v,rfl,⟨⟨ft,fa,fk,fq,fn,fc⟩,rfl,hf1,hf2,hf3,-,-,-⟩⟩,hP,hO⟩:=hA.ok HHT.out
 have NX:=NV.out.outs hO (by omega)
 have PX:=PV.out.trans hO.up
 have hwX:w.heap.size<X.heap.size:=NX.lt
 have b1:Below X.heap.size X (X.alloc (.cells #[.string ft,.string fa,.int .i64 fk,.slice fq fn fc] 40)):=ext_alloc (ext_refl _) _
 have NF:=BkA.new X [.string ft,.string fa,.int .i64 fk,.slice fq fn fc] 40
 have HPU:=hP.below b1
 have NXU:=NX.on b1
 obtain⟨U,hU⟩:∃ U,U=X.alloc (.cells #[.string ft,.string fa,.int .i64 fk,.slice fq fn fc] 40):=⟨_,rfl⟩
 rw[← hU] at b1 NF HPU NXU
 have HU:=zH hU
 have HPU:=zH HPU
 have NXU:=zH NXU
 have NF:=zH NF
 have HF1:=zH hf1
 have HF2:=zH hf2
 have HF3:=zH hf3
 have PU:=zH (PX.trans (Out.of b1))
 have hXU:X.heap.size<U.heap.size:=NF.out.lt
 clear hP hO NX PX hU b1 hA TB hf1 hf2 hf3
 go_upto_region 3 with fail
 rw[← HU.out]
 clear HU
 go_wp2_with fail
 refine (need_yes p z k t1 r kwOn U HPU.out HHN.out).mono ?_
 rintro e Y ⟨rfl,hP,hO⟩
 have hpX:p<X.heap.size:=by omega
 have NFY:=zH (NF.out.outs hO (by omega))
 have NY:=zH (NXU.out.outs hO (by omega))
 have PY:=zH (PU.out.trans hO.up)
 have hXY:X.heap.size<Y.heap.size:=NFY.out.lt
 have CC:=zH (HCC.out r Y hP)
 clear hP hO
 go_wp2_with fail
 refine CC.out.mono ?_
 intro e Z hA
 obtain⟨⟨v,rfl,⟨⟨fop,⟨fvk,fvn,fvs⟩,frel,fcol,fn,fs,fq,flen,fc⟩,rfl,hx⟩⟩,hP,hO⟩:=hA.ok HHR.out
 have NFZ:=NFY.out.outs hO (by omega)
 have NZ:=NY.out.outs hO (by omega)
 have PZ:=PY.out.trans hO.up
 have hXZ:X.heap.size<Z.heap.size:=NFZ.lt
 have o1:=Out.set (S:=fun j=>j=X.heap.size) (a:=Z) ⟨X.heap.size,3,none⟩ (.slice (some ⟨Z.heap.size,0,none⟩) 1 1) rfl
 have NS:=set4 NFZ 3 (.slice (some ⟨Z.heap.size,0,none⟩) 1 1) (by decide)
 obtain⟨S0,hS0⟩:∃ S0,S0=Z.setCell ⟨X.heap.size,3,none⟩ (.slice (some ⟨Z.heap.size,0,none⟩) 1 1):=⟨_,rfl⟩
 have hsz:S0.heap.size=Z.heap.size:=by rw[hS0];simp[World.setCell]
 rw[← hS0] at o1 NS
 have b2:Below S0.heap.size S0 (S0.alloc (.cells #[.int .i64 fop,.int .i64 fvk,.int .i64 fvn,.string fvs,.int .i64 frel,.int .i64 fcol,.int .i64 fn,.string fs,.slice fq flen fc] 44)):=ext_alloc (ext_refl _) _
 have NE:=BkA.new S0 [.int .i64 fop,.int .i64 fvk,.int .i64 fvn,.string fvs,.int .i64 frel,.int .i64 fcol,.int .i64 fn,.string fs,.slice fq flen fc] 44
 rw[hsz] at NE
 have HPM:=(hP.outs o1 (fun j hj=>by omega)).below b2
 have NRM:=(NZ.outs o1 (by omega)).on b2
 have PM:=(PZ.trans (o1.mono fun j _ hj=>.inr (by omega))).trans (Out.of b2)
 have NM:=NS.on b2
 have HXM:=ExLP.one (P:=fun j=>X.heap.size<j) (ExMP.on (Q:=fun j=>X.heap.size<j) (Nat.le_trans o1.size b2.size) (fun j hj hl=>(b2.block j (Nat.lt_of_lt_of_le hl o1.size)).trans (o1.block j hl (fun (e:j=X.heap.size)=>by omega))) (fun j hj _=>by omega) _ _ hx) NE.lt hXZ NE.c
 obtain⟨c0,c1,c2,c3⟩:=NFZ.c4_ rfl
 have fz:=NFZ.fz
 have ltf:=NFZ.lt
 obtain⟨M,hM⟩:∃ M,M=S0.alloc (.cells #[.int .i64 fop,.int .i64 fvk,.int .i64 fvn,.string fvs,.int .i64 frel,.int .i64 fcol,.int .i64 fn,.string fs,.slice fq flen fc] 44):=⟨_,rfl⟩
 rw[← hM] at NM HPM NRM PM HXM
 rw[hS0] at hM
 have HM:=zH hM
 clear hA hx hP hO CC NFZ NZ PZ b2 NE o1 NS hS0 hM
 go_upto_region 5 with fail
 rw[← HM.out]
 clear c0 c1 c2 c3 fz ltf
 have hXM:X.heap.size<M.heap.size:=NM.lt
 obtain⟨c0,c1,c2,c3⟩:=NM.c4_ rfl
 have fz:=NM.fz
 obtain⟨d0,d1,d2,d3⟩:=NRM.c4_ rfl
 have fzr:=NRM.fz
 have ltr:=NRM.lt
 have HF:=zH (fin_fr (w:=w) (V:=M) (P:=fun j=>X.heap.size<j) (b:=w.heap.size) (gr:=w.heap.size) (f:={ f with on:=[x] }) (q:=some ⟨Z.heap.size,0,none⟩) (n:=1) (c:=1) (Nat.le_refl _) lp HF1.out HF2.out HF3.out rfl (Nat.le_refl _) HXM (fun j hj=>⟨by omega,by omega⟩) HPM PM)
 clear HM NM NRM HPM PM HXM
 go_wp2_with fail
 exact bodyPost_ret (v:=.agg #[.string ft,.string fa,.int .i64 fk,.slice (some ⟨Z.heap.size,0,none⟩) 1 1]) (by simp[results,Tryz.results87,go_sem,d0,d1,d2,d3]) rfl (Ans.mkOk rfl HF.out.1 HF.out.2.1 HF.out.2.2)
theorem join_any (p z k:Nat) (orr:Rd Ex) (hC:RdC 52 p z k orr) (kind:Int) (ahead most:Nat) (l:List Tok) (w:World) (h:PSt w p z l k):Calls Tryz.prog 87 #[.pointer (some ⟨p,0,none⟩),.int .i64 kind,.int .i64 (ahead:Int),.int .i64 (most:Int)] w (Ans FrV p z k (bJoin z orr kind ahead most l) w):=by
 cases hj:hSees kwJoin l with
 | false=>exact join_nj p z k orr hC kind ahead most l hj w h
 | true =>
  obtain⟨t0,l1,rfl,-,-⟩:=sees_cons hj
  cases ht:bTable z kind ahead most l1 with
  | err er a0=>exact join_terr p z k orr hC kind ahead most t0 l1 hj er a0 ht w h
  | ok f r =>
   cases hn:hSees kwOn r with
   | false=>exact join_non p z k orr hC kind ahead most t0 l1 hj f r ht hn w h
   | true =>
    obtain⟨t1,r1,rfl,-,-⟩:=sees_cons hn
    cases hr:orr r1 with
    | err er a0=>exact join_oerr p z k orr hC kind ahead most t0 l1 hj f t1 r1 ht hn er a0 hr w h
    | ok x r2=>exact join_ok p z k orr hC kind ahead most t0 l1 hj f t1 r1 ht hn x r2 hr w h
set_option maxHeartbeats 4000000 in
theorem inner_c_err (p z k:Nat) (orr:Rd Ex) (hC:RdC 52 p z k orr) (ahead:Nat) (t0:Tok) (l:List Tok) (h1:hSees [44] (t0 :: l)=true) (er a0:Nat) (hr:bTable z 0 ahead 4 l=.err er a0) (w:World) (h:PSt w p z (t0 :: l) k):Calls Tryz.prog 73 #[.pointer (some ⟨p,0,none⟩),.int .i64 (ahead:Int)] w (Ans FrV p z k (bInner z orr ahead (t0 :: l)) w):=by
 have lp:=h.lt
 have htk:=h.tk
 have b0:Below w.heap.size w (w.alloc (.cells zFrom.toArray 40)):=ext_alloc (ext_refl _) _
 have N0:=zH (BkA.new w zFrom 40)
 have HP0:=zH (h.below b0)
 have B0:=zH b0
 have HR:bInner z orr ahead (t0 :: l)=.err er a0:=by unfold bInner;exact (if_pos h1).trans hr
 rw[HR]
 have HCC:=zH hC
 have HHR:=zH hr
 have TK:=zH (take_yes p z k t0 l [44] _ HP0.out h1)
 clear htk h b0 HR hC hr h1
 go_enter Tryz.func73,Tryz.ntmps73
 go_wp2_with fail
 refine TK.out.mono ?_
 rintro e V ⟨rfl,hP,hO⟩
 have NV:=zH (N0.out.outs hO (by omega))
 have PV:=zH ((Out.of (S:=fun j=>j=p∨w.heap.size≤j) B0.out).trans hO.up)
 have HPV:=zH hP
 clear hP hO TK
 have hwW:w.heap.size<V.heap.size:=NV.out.lt
 have CC:=zH (table_any p z k 0 ahead 4 l V HPV.out)
 go_wp2_with fail
 refine CC.out.mono ?_
 intro e Y hA
 obtain⟨rfl,hE,hO⟩:=hA.err HHR.out
 go_wp2_with fail
 exact⟨rfl,Ans.mkErr rfl hE (Out.down (PV.out.trans hO.up))⟩
set_option maxHeartbeats 4000000 in
theorem inner_c_ok (p z k:Nat) (orr:Rd Ex) (hC:RdC 52 p z k orr) (ahead:Nat) (t0:Tok) (l:List Tok) (h1:hSees [44] (t0 :: l)=true) (f:Fr) (r:List Tok) (hr:bTable z 0 ahead 4 l=.ok f r) (w:World) (h:PSt w p z (t0 :: l) k):Calls Tryz.prog 73 #[.pointer (some ⟨p,0,none⟩),.int .i64 (ahead:Int)] w (Ans FrV p z k (bInner z orr ahead (t0 :: l)) w):=by
 have lp:=h.lt
 have htk:=h.tk
 have b0:Below w.heap.size w (w.alloc (.cells zFrom.toArray 40)):=ext_alloc (ext_refl _) _
 have N0:=zH (BkA.new w zFrom 40)
 have HP0:=zH (h.below b0)
 have B0:=zH b0
 have HR:bInner z orr ahead (t0 :: l)=.ok f r:=by unfold bInner;exact (if_pos h1).trans hr
 rw[HR]
 have HCC:=zH hC
 have HHR:=zH hr
 have TK:=zH (take_yes p z k t0 l [44] _ HP0.out h1)
 clear htk h b0 HR hC hr h1
 go_enter Tryz.func73,Tryz.ntmps73
 go_wp2_with fail
 refine TK.out.mono ?_
 rintro e V ⟨rfl,hP,hO⟩
 have NV:=zH (N0.out.outs hO (by omega))
 have PV:=zH ((Out.of (S:=fun j=>j=p∨w.heap.size≤j) B0.out).trans hO.up)
 have HPV:=zH hP
 clear hP hO TK
 have hwW:w.heap.size<V.heap.size:=NV.out.lt
 have CC:=zH (table_any p z k 0 ahead 4 l V HPV.out)
 go_wp2_with fail
 refine CC.out.mono ?_
 intro e Y hA
 obtain⟨⟨v,rfl,⟨⟨ft,fa,fk,fq,fn,fc⟩,rfl,hf1,hf2,hf3,hf4,hf5,hf6⟩⟩,hP,hO⟩:=hA.ok HHR.out
 have NY:=NV.out.outs hO (by omega)
 have HF:=zH (fin_fr (w:=w) (V:=Y) (P:=fun j=>V.heap.size≤j) (b:=w.heap.size) (gr:=w.heap.size) (f:=f) (q:=fq) (n:=fn) (c:=fc) (Nat.le_refl _) lp hf1 hf2 hf3 hf4 hf5 hf6 (fun j hj=>⟨by omega,by omega⟩) hP (PV.out.trans hO.up))
 obtain⟨d0,d1,d2,d3⟩:=NY.c4_ rfl
 have fzr:=NY.fz
 have ltr:=NY.lt
 clear hA hP hO NY hf1 hf2 hf3 hf4 hf5 hf6 CC
 go_wp2_with fail
 exact bodyPost_ret (v:=.agg #[.string ft,.string fa,.int .i64 fk,.slice fq fn fc]) (by simp[results,Tryz.results73,go_sem,d0,d1,d2,d3]) rfl (Ans.mkOk rfl HF.out.1 HF.out.2.1 HF.out.2.2)
set_option maxHeartbeats 4000000 in
theorem inner_j_err (p z k:Nat) (orr:Rd Ex) (hC:RdC 52 p z k orr) (ahead:Nat) (l:List Tok) (h1:hSees [44] l=false) (er a0:Nat) (hr:bJoin z orr 0 ahead 4 l=.err er a0) (w:World) (h:PSt w p z l k):Calls Tryz.prog 73 #[.pointer (some ⟨p,0,none⟩),.int .i64 (ahead:Int)] w (Ans FrV p z k (bInner z orr ahead l) w):=by
 have lp:=h.lt
 have htk:=h.tk
 have b0:Below w.heap.size w (w.alloc (.cells zFrom.toArray 40)):=ext_alloc (ext_refl _) _
 have N0:=zH (BkA.new w zFrom 40)
 have HP0:=zH (h.below b0)
 have B0:=zH b0
 have HR:bInner z orr ahead l=.err er a0:=by unfold bInner;exact (if_neg (by rw[h1];decide)).trans hr
 rw[HR]
 have HCC:=zH hC
 have HHR:=zH hr
 have TK:=zH (take_no p z k l [44] _ HP0.out h1)
 clear htk h b0 HR hC hr h1
 go_enter Tryz.func73,Tryz.ntmps73
 go_wp2_with fail
 refine TK.out.mono ?_
 rintro e V ⟨rfl,hb⟩
 have NV:=zH (N0.out.on hb)
 have PV:=zH ((Out.of (S:=fun j=>j=p∨w.heap.size≤j) B0.out).trans (Out.of hb))
 have HPV:=zH (HP0.out.below hb)
 clear hb TK
 have hwW:w.heap.size<V.heap.size:=NV.out.lt
 have CC:=zH (join_any p z k orr HCC.out 0 ahead 4 l V HPV.out)
 go_wp2_with fail
 refine CC.out.mono ?_
 intro e Y hA
 obtain⟨rfl,hE,hO⟩:=hA.err HHR.out
 go_wp2_with fail
 exact⟨rfl,Ans.mkErr rfl hE (Out.down (PV.out.trans hO.up))⟩
set_option maxHeartbeats 4000000 in
theorem inner_j_ok (p z k:Nat) (orr:Rd Ex) (hC:RdC 52 p z k orr) (ahead:Nat) (l:List Tok) (h1:hSees [44] l=false) (f:Fr) (r:List Tok) (hr:bJoin z orr 0 ahead 4 l=.ok f r) (w:World) (h:PSt w p z l k):Calls Tryz.prog 73 #[.pointer (some ⟨p,0,none⟩),.int .i64 (ahead:Int)] w (Ans FrV p z k (bInner z orr ahead l) w):=by
 have lp:=h.lt
 have htk:=h.tk
 have b0:Below w.heap.size w (w.alloc (.cells zFrom.toArray 40)):=ext_alloc (ext_refl _) _
 have N0:=zH (BkA.new w zFrom 40)
 have HP0:=zH (h.below b0)
 have B0:=zH b0
 have HR:bInner z orr ahead l=.ok f r:=by unfold bInner;exact (if_neg (by rw[h1];decide)).trans hr
 rw[HR]
 have HCC:=zH hC
 have HHR:=zH hr
 have TK:=zH (take_no p z k l [44] _ HP0.out h1)
 clear htk h b0 HR hC hr h1
 go_enter Tryz.func73,Tryz.ntmps73
 go_wp2_with fail
 refine TK.out.mono ?_
 rintro e V ⟨rfl,hb⟩
 have NV:=zH (N0.out.on hb)
 have PV:=zH ((Out.of (S:=fun j=>j=p∨w.heap.size≤j) B0.out).trans (Out.of hb))
 have HPV:=zH (HP0.out.below hb)
 clear hb TK
 have hwW:w.heap.size<V.heap.size:=NV.out.lt
 have CC:=zH (join_any p z k orr HCC.out 0 ahead 4 l V HPV.out)
 go_wp2_with fail
 refine CC.out.mono ?_
 intro e Y hA
 obtain⟨⟨v,rfl,⟨⟨ft,fa,fk,fq,fn,fc⟩,rfl,hf1,hf2,hf3,hf4,hf5,hf6⟩⟩,hP,hO⟩:=hA.ok HHR.out
 have NY:=NV.out.outs hO (by omega)
 have HF:=zH (fin_fr (w:=w) (V:=Y) (P:=fun j=>V.heap.size≤j) (b:=w.heap.size) (gr:=w.heap.size) (f:=f) (q:=fq) (n:=fn) (c:=fc) (Nat.le_refl _) lp hf1 hf2 hf3 hf4 hf5 hf6 (fun j hj=>⟨by omega,by omega⟩) hP (PV.out.trans hO.up))
 obtain⟨d0,d1,d2,d3⟩:=NY.c4_ rfl
 have fzr:=NY.fz
 have ltr:=NY.lt
 clear hA hP hO NY hf1 hf2 hf3 hf4 hf5 hf6 CC
 go_wp2_with fail
 exact bodyPost_ret (v:=.agg #[.string ft,.string fa,.int .i64 fk,.slice fq fn fc]) (by simp[results,Tryz.results73,go_sem,d0,d1,d2,d3]) rfl (Ans.mkOk rfl HF.out.1 HF.out.2.1 HF.out.2.2)
set_option maxHeartbeats 4000000 in
theorem outer_l_err (p z k:Nat) (orr:Rd Ex) (hC:RdC 52 p z k orr) (ahead:Nat) (t0:Tok) (l:List Tok) (h1:hSees kwLeft (t0 :: l)=true) (er a0:Nat) (hr:bJoin z orr 1 ahead 2 l=.err er a0) (w:World) (h:PSt w p z (t0 :: l) k):Calls Tryz.prog 74 #[.pointer (some ⟨p,0,none⟩),.int .i64 (ahead:Int)] w (Ans FrV p z k (bOuter z orr ahead (t0 :: l)) w):=by
 have lp:=h.lt
 have htk:=h.tk
 have b0:Below w.heap.size w (w.alloc (.cells zFrom.toArray 40)):=ext_alloc (ext_refl _) _
 have N0:=zH (BkA.new w zFrom 40)
 have HP0:=zH (h.below b0)
 have B0:=zH b0
 have HR:bOuter z orr ahead (t0 :: l)=.err er a0:=by unfold bOuter;exact (if_pos h1).trans hr
 rw[HR]
 have HCC:=zH hC
 have HHR:=zH hr
 have TK:=zH (take_yes p z k t0 l kwLeft _ HP0.out h1)
 clear htk h b0 HR hC hr h1
 go_enter Tryz.func74,Tryz.ntmps74
 go_wp2_with fail
 refine TK.out.mono ?_
 rintro e V ⟨rfl,hP,hO⟩
 have NV:=zH (N0.out.outs hO (by omega))
 have PV:=zH ((Out.of (S:=fun j=>j=p∨w.heap.size≤j) B0.out).trans hO.up)
 have HPV:=zH hP
 clear hP hO TK
 have hwW:w.heap.size<V.heap.size:=NV.out.lt
 have CC:=zH (join_any p z k orr HCC.out 1 ahead 2 l V HPV.out)
 go_wp2_with fail
 refine CC.out.mono ?_
 intro e Y hA
 obtain⟨rfl,hE,hO⟩:=hA.err HHR.out
 go_wp2_with fail
 exact⟨rfl,Ans.mkErr rfl hE (Out.down (PV.out.trans hO.up))⟩
set_option maxHeartbeats 4000000 in
theorem outer_l_ok (p z k:Nat) (orr:Rd Ex) (hC:RdC 52 p z k orr) (ahead:Nat) (t0:Tok) (l:List Tok) (h1:hSees kwLeft (t0 :: l)=true) (f:Fr) (r:List Tok) (hr:bJoin z orr 1 ahead 2 l=.ok f r) (w:World) (h:PSt w p z (t0 :: l) k):Calls Tryz.prog 74 #[.pointer (some ⟨p,0,none⟩),.int .i64 (ahead:Int)] w (Ans FrV p z k (bOuter z orr ahead (t0 :: l)) w):=by
 have lp:=h.lt
 have htk:=h.tk
 have b0:Below w.heap.size w (w.alloc (.cells zFrom.toArray 40)):=ext_alloc (ext_refl _) _
 have N0:=zH (BkA.new w zFrom 40)
 have HP0:=zH (h.below b0)
 have B0:=zH b0
 have HR:bOuter z orr ahead (t0 :: l)=.ok f r:=by unfold bOuter;exact (if_pos h1).trans hr
 rw[HR]
 have HCC:=zH hC
 have HHR:=zH hr
 have TK:=zH (take_yes p z k t0 l kwLeft _ HP0.out h1)
 clear htk h b0 HR hC hr h1
 go_enter Tryz.func74,Tryz.ntmps74
 go_wp2_with fail
 refine TK.out.mono ?_
 rintro e V ⟨rfl,hP,hO⟩
 have NV:=zH (N0.out.outs hO (by omega))
 have PV:=zH ((Out.of (S:=fun j=>j=p∨w.heap.size≤j) B0.out).trans hO.up)
 have HPV:=zH hP
 clear hP hO TK
 have hwW:w.heap.size<V.heap.size:=NV.out.lt
 have CC:=zH (join_any p z k orr HCC.out 1 ahead 2 l V HPV.out)
 go_wp2_with fail
 refine CC.out.mono ?_
 intro e Y hA
 obtain⟨⟨v,rfl,⟨⟨ft,fa,fk,fq,fn,fc⟩,rfl,hf1,hf2,hf3,hf4,hf5,hf6⟩⟩,hP,hO⟩:=hA.ok HHR.out
 have NY:=NV.out.outs hO (by omega)
 have HF:=zH (fin_fr (w:=w) (V:=Y) (P:=fun j=>V.heap.size≤j) (b:=w.heap.size) (gr:=w.heap.size) (f:=f) (q:=fq) (n:=fn) (c:=fc) (Nat.le_refl _) lp hf1 hf2 hf3 hf4 hf5 hf6 (fun j hj=>⟨by omega,by omega⟩) hP (PV.out.trans hO.up))
 obtain⟨d0,d1,d2,d3⟩:=NY.c4_ rfl
 have fzr:=NY.fz
 have ltr:=NY.lt
 clear hA hP hO NY hf1 hf2 hf3 hf4 hf5 hf6 CC
 go_wp2_with fail
 exact bodyPost_ret (v:=.agg #[.string ft,.string fa,.int .i64 fk,.slice fq fn fc]) (by simp[results,Tryz.results74,go_sem,d0,d1,d2,d3]) rfl (Ans.mkOk rfl HF.out.1 HF.out.2.1 HF.out.2.2)
set_option maxHeartbeats 4000000 in
theorem outer_s_err (p z k:Nat) (orr:Rd Ex) (hC:RdC 52 p z k orr) (ahead:Nat) (t0:Tok) (l:List Tok) (h1:hSees kwLeft (t0 :: l)=false) (h2:hSees kwSemi (t0 :: l)=true) (er a0:Nat) (hr:bJoin z orr 2 ahead 2 l=.err er a0) (w:World) (h:PSt w p z (t0 :: l) k):Calls Tryz.prog 74 #[.pointer (some ⟨p,0,none⟩),.int .i64 (ahead:Int)] w (Ans FrV p z k (bOuter z orr ahead (t0 :: l)) w):=by
 have lp:=h.lt
 have htk:=h.tk
 have b0:Below w.heap.size w (w.alloc (.cells zFrom.toArray 40)):=ext_alloc (ext_refl _) _
 have N0:=zH (BkA.new w zFrom 40)
 have HP0:=zH (h.below b0)
 have B0:=zH b0
 have HR:bOuter z orr ahead (t0 :: l)=.err er a0:=by unfold bOuter need;exact (if_neg (by rw[h1];decide)).trans ((if_pos h2).trans hr)
 rw[HR]
 have HCC:=zH hC
 have HHR:=zH hr
 have TK:=zH (take_no p z k (t0 :: l) kwLeft _ HP0.out h1)
 have H2:=zH h2
 clear htk h b0 HR hC hr h1 h2
 go_enter Tryz.func74,Tryz.ntmps74
 go_wp2_with fail
 refine TK.out.mono ?_
 rintro e V ⟨rfl,hb⟩
 have NV:=zH (N0.out.on hb)
 have PV:=zH ((Out.of (S:=fun j=>j=p∨w.heap.size≤j) B0.out).trans (Out.of hb))
 have HPV:=zH (HP0.out.below hb)
 clear hb TK
 have hwV0:w.heap.size<V.heap.size:=NV.out.lt
 go_wp2_with fail
 refine (need_yes p z k t0 l kwSemi V HPV.out H2.out).mono ?_
 rintro e X ⟨rfl,hP,hO⟩
 have NX:=zH (NV.out.outs hO (by omega))
 have PX:=zH (PV.out.trans hO.up)
 have HPX:=zH hP
 clear hP hO
 have hwW:w.heap.size<X.heap.size:=NX.out.lt
 have CC:=zH (join_any p z k orr HCC.out 2 ahead 2 l X HPX.out)
 go_wp2_with fail
 refine CC.out.mono ?_
 intro e Y hA
 obtain⟨rfl,hE,hO⟩:=hA.err HHR.out
 go_wp2_with fail
 exact⟨rfl,Ans.mkErr rfl hE (Out.down (PX.out.trans hO.up))⟩
set_option maxHeartbeats 4000000 in
theorem outer_s_ok (p z k:Nat) (orr:Rd Ex) (hC:RdC 52 p z k orr) (ahead:Nat) (t0:Tok) (l:List Tok) (h1:hSees kwLeft (t0 :: l)=false) (h2:hSees kwSemi (t0 :: l)=true) (f:Fr) (r:List Tok) (hr:bJoin z orr 2 ahead 2 l=.ok f r) (w:World) (h:PSt w p z (t0 :: l) k):Calls Tryz.prog 74 #[.pointer (some ⟨p,0,none⟩),.int .i64 (ahead:Int)] w (Ans FrV p z k (bOuter z orr ahead (t0 :: l)) w):=by
 have lp:=h.lt
 have htk:=h.tk
 have b0:Below w.heap.size w (w.alloc (.cells zFrom.toArray 40)):=ext_alloc (ext_refl _) _
 have N0:=zH (BkA.new w zFrom 40)
 have HP0:=zH (h.below b0)
 have B0:=zH b0
 have HR:bOuter z orr ahead (t0 :: l)=.ok f r:=by unfold bOuter need;exact (if_neg (by rw[h1];decide)).trans ((if_pos h2).trans hr)
 rw[HR]
 have HCC:=zH hC
 have HHR:=zH hr
 have TK:=zH (take_no p z k (t0 :: l) kwLeft _ HP0.out h1)
 have H2:=zH h2
 clear htk h b0 HR hC hr h1 h2
 go_enter Tryz.func74,Tryz.ntmps74
 go_wp2_with fail
 refine TK.out.mono ?_
 rintro e V ⟨rfl,hb⟩
 have NV:=zH (N0.out.on hb)
 have PV:=zH ((Out.of (S:=fun j=>j=p∨w.heap.size≤j) B0.out).trans (Out.of hb))
 have HPV:=zH (HP0.out.below hb)
 clear hb TK
 have hwV0:w.heap.size<V.heap.size:=NV.out.lt
 go_wp2_with fail
 refine (need_yes p z k t0 l kwSemi V HPV.out H2.out).mono ?_
 rintro e X ⟨rfl,hP,hO⟩
 have NX:=zH (NV.out.outs hO (by omega))
 have PX:=zH (PV.out.trans hO.up)
 have HPX:=zH hP
 clear hP hO
 have hwW:w.heap.size<X.heap.size:=NX.out.lt
 have CC:=zH (join_any p z k orr HCC.out 2 ahead 2 l X HPX.out)
 go_wp2_with fail
 refine CC.out.mono ?_
 intro e Y hA
 obtain⟨⟨v,rfl,⟨⟨ft,fa,fk,fq,fn,fc⟩,rfl,hf1,hf2,hf3,hf4,hf5,hf6⟩⟩,hP,hO⟩:=hA.ok HHR.out
 have NY:=NX.out.outs hO (by omega)
 have HF:=zH (fin_fr (w:=w) (V:=Y) (P:=fun j=>X.heap.size≤j) (b:=w.heap.size) (gr:=w.heap.size) (f:=f) (q:=fq) (n:=fn) (c:=fc) (Nat.le_refl _) lp hf1 hf2 hf3 hf4 hf5 hf6 (fun j hj=>⟨by omega,by omega⟩) hP (PX.out.trans hO.up))
 obtain⟨d0,d1,d2,d3⟩:=NY.c4_ rfl
 have fzr:=NY.fz
 have ltr:=NY.lt
 clear hA hP hO NY hf1 hf2 hf3 hf4 hf5 hf6 CC
 go_wp2_with fail
 exact bodyPost_ret (v:=.agg #[.string ft,.string fa,.int .i64 fk,.slice fq fn fc]) (by simp[results,Tryz.results74,go_sem,d0,d1,d2,d3]) rfl (Ans.mkOk rfl HF.out.1 HF.out.2.1 HF.out.2.2)
set_option maxHeartbeats 4000000 in
theorem outer_x (p z k:Nat) (orr:Rd Ex) (hC:RdC 52 p z k orr) (ahead:Nat) (l:List Tok) (h1:hSees kwLeft l=false) (h2:hSees kwSemi l=false) (w:World) (h:PSt w p z l k):Calls Tryz.prog 74 #[.pointer (some ⟨p,0,none⟩),.int .i64 (ahead:Int)] w (Ans FrV p z k (bOuter z orr ahead l) w):=by
 have lp:=h.lt
 have htk:=h.tk
 have b0:Below w.heap.size w (w.alloc (.cells zFrom.toArray 40)):=ext_alloc (ext_refl _) _
 have N0:=zH (BkA.new w zFrom 40)
 have HP0:=zH (h.below b0)
 have B0:=zH b0
 have HR:bOuter z orr ahead l=.err 7 (hAt z l):=by unfold bOuter need;exact (if_neg (by rw[h1];decide)).trans (if_neg (by rw[h2];decide))
 rw[HR]
 have HCC:=zH hC
 have TK:=zH (take_no p z k l kwLeft _ HP0.out h1)
 have H2:=zH h2
 clear htk h b0 HR hC h1 h2
 go_enter Tryz.func74,Tryz.ntmps74
 go_wp2_with fail
 refine TK.out.mono ?_
 rintro e V ⟨rfl,hb⟩
 have NV:=zH (N0.out.on hb)
 have PV:=zH ((Out.of (S:=fun j=>j=p∨w.heap.size≤j) B0.out).trans (Out.of hb))
 have HPV:=zH (HP0.out.below hb)
 clear hb TK
 go_wp2_with fail
 refine (need_no p z k l kwSemi V HPV.out H2.out).mono ?_
 rintro e X ⟨rfl,hE,hO⟩
 go_wp2_with fail
 exact⟨rfl,Ans.mkErr rfl hE (Out.down (PV.out.trans hO.up))⟩
theorem inner_any (p z k:Nat) (orr:Rd Ex) (hC:RdC 52 p z k orr) (ahead:Nat) (l:List Tok) (w:World) (h:PSt w p z l k):Calls Tryz.prog 73 #[.pointer (some ⟨p,0,none⟩),.int .i64 (ahead:Int)] w (Ans FrV p z k (bInner z orr ahead l) w):=by
 cases h1:hSees [44] l with
 | true =>
  obtain⟨t0,l1,rfl,-,-⟩:=sees_cons h1
  cases hr:bTable z 0 ahead 4 l1 with
  | err er a0=>exact inner_c_err p z k orr hC ahead t0 l1 h1 er a0 hr w h
  | ok f r=>exact inner_c_ok p z k orr hC ahead t0 l1 h1 f r hr w h
 | false =>
  cases hr:bJoin z orr 0 ahead 4 l with
  | err er a0=>exact inner_j_err p z k orr hC ahead l h1 er a0 hr w h
  | ok f r=>exact inner_j_ok p z k orr hC ahead l h1 f r hr w h
theorem outer_any (p z k:Nat) (orr:Rd Ex) (hC:RdC 52 p z k orr) (ahead:Nat) (l:List Tok) (w:World) (h:PSt w p z l k):Calls Tryz.prog 74 #[.pointer (some ⟨p,0,none⟩),.int .i64 (ahead:Int)] w (Ans FrV p z k (bOuter z orr ahead l) w):=by
 cases h1:hSees kwLeft l with
 | true =>
  obtain⟨t0,l1,rfl,-,-⟩:=sees_cons h1
  cases hr:bJoin z orr 1 ahead 2 l1 with
  | err er a0=>exact outer_l_err p z k orr hC ahead t0 l1 h1 er a0 hr w h
  | ok f r=>exact outer_l_ok p z k orr hC ahead t0 l1 h1 f r hr w h
 | false =>
  cases h2:hSees kwSemi l with
  | false=>exact outer_x p z k orr hC ahead l h1 h2 w h
  | true =>
   obtain⟨t0,l1,rfl,-,-⟩:=sees_cons h2
   cases hr:bJoin z orr 2 ahead 2 l1 with
   | err er a0=>exact outer_s_err p z k orr hC ahead t0 l1 h1 h2 er a0 hr w h
   | ok f r=>exact outer_s_ok p z k orr hC ahead t0 l1 h1 h2 f r hr w h
theorem Tryz.info_from:(Tryz.prog.info? 40).map (fun i=>(i.zero,i.size,i.bytes))=some (some (.agg #[.string ⟨#[]⟩,.string ⟨#[]⟩,.int .i64 0,.slice none 0 0]),4,64):=by kernel_rfl
theorem LsO.nil {α ρ:Type} {T:El α ρ} (w:World) (b:Nat):LsO T w b (.slice none 0 0) []:=⟨[],OwnF.nil _ _ _,rfl,fun j r x hr=>by simp at hr⟩
theorem LsO.joined {α ρ:Type} {T:El α ρ} (hT:T.Ok) {U V:World} {b B:Nat} {v v2 v':Value} {L L2:List α} {K K2:List ρ} (hKL:K.length=L.length) (hK:∀ (j:Nat) (r:ρ) (x:α),K[j]?=some r→L[j]?=some x→T.rel U (fun g=>b≤g∧v.ownBlock≠some g) x r) (hv:∀ k,v.ownBlock=some k→k<B) (hbB:b≤B)
  (hKL2:K2.length=L2.length) (hK2:∀ (j:Nat) (r:ρ) (x:α),K2[j]?=some r→L2[j]?=some x→T.rel U (fun g=>B≤g∧v2.ownBlock≠some g) x r)
  (ho:OwnF V b T.E T.sz T.cells v' (K++K2)) (hO:Out (fun k=>v.ownBlock=some k) U V) (hat:v'.ownBlock=v.ownBlock∨v'.ownBlock=some U.heap.size):LsO T V b v' (L++L2):=by
 refine⟨K++K2,ho,by rw[List.length_append,List.length_append,hKL,hKL2],fun j r' y hr' hy=>?_⟩
 by_cases hj:j<K.length
 ·rw[List.getElem?_append_left hj] at hr'
  rw[List.getElem?_append_left (by rw[← hKL];exact hj)] at hy
  refine hT.on hO.size (fun g hg hl=>hO.block g hl hg.2) (fun g hg hl=>⟨hg.1,?_⟩) _ _ (hK j r' y hr' hy)
  rcases hat with h | h
  ·rw[h];exact hg.2
  ·rw[h];simp;omega
 ·rw[List.getElem?_append_right (by omega)] at hr'
  rw[List.getElem?_append_right (by rw[← hKL];omega),← hKL] at hy
  refine hT.on hO.size (fun g hg hl=>hO.block g hl fun e=>by have:=hv g e;have:=hg.1;omega) (fun g hg hl=>⟨by have:=hg.1;omega,?_⟩) _ _ (hK2 _ r' y hr' hy)
  rcases hat with h | h
  ·rw[h]
   intro e
   have:=hv g e
   have:=hg.1
   omega
  ·rw[h];simp;omega
set_option maxHeartbeats 16000000 in
theorem tables_any (p z k:Nat) (orr:Rd Ex) (hS:Shr orr) (hC:RdC 52 p z k orr) (l:List Tok) (w:World) (h:PSt w p z l k):Calls Tryz.prog 51 #[.pointer (some ⟨p,0,none⟩)] w (Ans (LsV elF) p z k (bTables z orr l) w):=by
 have TB:=zH (table_any p z k 0 0 4 l w h)
 have HCC:=zH hC
 have HSH:=zH hS
 have lp:=h.lt
 clear hC hS h
 cases ht:bTable z 0 0 4 l with
 | err er a =>
  have HT:=zH ht
  have HRES:=zH (show bTables z orr l=.err er a by unfold bTables;rw[ht];rfl)
  clear ht
  go_enter Tryz.func51,Tryz.ntmps51
  go_wp2_with fail
  refine TB.out.mono ?_
  intro e V hA
  obtain⟨rfl,hE,hO⟩:=hA.err HT.out
  go_wp2_with fail
  exact⟨rfl,Ans.mkErr HRES.out hE hO⟩
 | ok f0 r0 =>
  have HT:=zH ht
  have RES:=zH (show bTables z orr l=(moreW [44] kwJoin (bInner z orr) [f0] r0).bind fun c r2=>(moreW kwLeft kwSemi (bOuter z orr) [] r2).map fun o=>c++o by unfold bTables;rw[ht];rfl)
  clear ht
  go_enter Tryz.func51,Tryz.ntmps51
  go_wp2_with fail
  refine TB.out.mono ?_
  intro e V hA
  obtain⟨⟨v,rfl,⟨⟨ft,fa,fk,fq,fn,fc⟩,rfl,hx⟩⟩,hP,hO⟩:=hA.ok HT.out
  have b1:Below V.heap.size V (V.alloc (.cells #[.string ft,.string fa,.int .i64 fk,.slice fq fn fc] 40)):=ext_alloc (ext_refl _) _
  have LO:=zH (LsO.first elF_ok (r:=⟨ft,fa,fk,fq,fn,fc⟩) (x:=f0) (w:=V) (b:=w.heap.size) hx hO.size)
  have HPU:=zH (hP.below b1)
  have PU:=zH (hO.trans (Out.of b1))
  have PRE:=zH (Out.refl (fun j=>j=p) w)
  have PRE0:=PRE
  have HC0:=PRE
  clear hx hP hO b1 hA TB
  go_wp2_with fail
  go_loopw [3] (fun v5 wr=>∃ (L:List Fr) (l':List Tok),Hid (moreW [44] kwJoin (bInner z orr) L l'=moreW [44] kwJoin (bInner z orr) [f0] r0)∧Hid (LsO elF wr w.heap.size v5 L)∧Hid (PSt wr p z l' k)∧L.length+l'.length≤402∧Hid (Out (fun j=>j=p) w wr)) (fun _ wr=>restLen wr p)
  case atStart=>exact⟨[f0],r0,rfl,LO.out,HPU.out,(by have:=HPU.out.tk.most;simp;omega),PU.out⟩
  case round =>
   obtain⟨L,l',hQ,hL,hP,h8,hO⟩:=hrel
   obtain⟨W,hW⟩:∃ W,W=wr:=⟨_,rfl⟩
   rw[← hW] at hL hP hO ⊢
   have HQ:=zH hQ.out
   have HL:=zH hL.out
   have HP:=zH hP.out
   have HO:=zH hO.out
   obtain⟨K,hK1,hK2,hK3⟩:=HL.out.own
   obtain⟨q,c,rfl,-⟩:=OwnF.arr elF_ok.len hK1
   obtain⟨n,hn⟩:∃ n,n=K.length:=⟨_,rfl⟩
   have HN:=zH hn
   rw[← hn] at hK1 hK3 HL ⊢
   have HK1:=zH hK1
   have HK2:=zH hK2
   have HK3:=zH hK3
   have hpW:=HP.out.lt
   have hbW:w.heap.size≤W.heap.size:=by have:=HO.out.size;omega
   have SA:=zH (sees_any p z k l' [44] W HP.out)
   clear hW hQ hL hP hO hK1 hK2 hK3 hn
   cases h1:hSees [44] l' with
   | true =>
    have HC:=zH (show (hSees [44] l' || hSees kwJoin l')=true by rw[h1];rfl)
    have GO:∀ X:World,Hid (Below W.heap.size W X)→Calls Tryz.prog 73 #[.pointer (some ⟨p,0,none⟩),.int .i64 (n:Int)] X (Ans FrV p z k (bInner z orr n l') X):=fun X hX=>inner_any p z k orr HCC.out n l' X (HP.out.below hX.out)
    rw[h1] at SA
    clear h1
    go_wp2_with fail
    refine SA.out.mono ?_
    rintro e X ⟨rfl,hb⟩
    have BX:=zH hb
    clear hb SA
    have HPX:=zH (HP.out.below BX.out)
    have POX:=zH (HO.out.trans (Out.of BX.out))
    have CX:=zH (GO X BX)
    have hWX:=BX.out.size
    cases hr2:bInner z orr n l' with
    | err er a =>
     have HR2:=zH hr2
     have HRES:=zH (show bTables z orr l=.err er a by
      have h:moreW [44] kwJoin (bInner z orr) [f0] r0=.err er a:=by rw[← HQ.out,moreW_err HC.out (by rw[← HK2.out,← HN.out];exact hr2)]
      rw[RES.out,h];rfl)
     clear hr2
     go_wp2_with fail
     refine CX.out.mono ?_
     intro e Y hA
     obtain⟨rfl,hE,hO⟩:=hA.err HR2.out
     go_wp2_with fail
     exact⟨rfl,Ans.mkErr HRES.out hE (PRE.out.trans (POX.out.trans hO))⟩
    | ok y r' =>
     have HR2:=zH hr2
     have HQ2:=zH (show moreW [44] kwJoin (bInner z orr) (L++[y]) r'=moreW [44] kwJoin (bInner z orr) [f0] r0 by rw[← HQ.out,moreW_some (bInner_shr z HSH.out) HC.out (by rw[← HK2.out,← HN.out];exact hr2)])
     have HLEN:=zH (show r'.length<l'.length from (bInner_shr z HSH.out n).len hr2)
     clear hr2
     go_wp2_with fail
     refine CX.out.mono ?_
     intro e Y hA
     obtain⟨⟨v,rfl,⟨⟨gt,ga,gk,gq,gn,gc⟩,rfl,hy⟩⟩,hPY,hOY⟩:=hA.ok HR2.out
     have OWY:=zH ((Out.of (S:=fun j=>j=p) BX.out).trans hOY)
     have POY:=zH (POX.out.trans hOY)
     have b1:Below Y.heap.size Y (Y.alloc (.cells #[.string gt,.string ga,.int .i64 gk,.slice gq gn gc] 40)):=ext_alloc (ext_refl _) _
     have HPU:=zH (hPY.below b1)
     have HY:=zH (elF_ok.on b1.size (fun j _ hl=>b1.block j hl) (fun _ h _=>h) y ⟨gt,ga,gk,gq,gn,gc⟩ hy)
     have OWU:=zH (OWY.out.trans (Out.of b1))
     have PUU:=zH (POY.out.trans (Out.of b1))
     have hWU:=OWU.out.size
     have OWN:=zH (HK1.out.kept (S:=fun j=>j=p) OWU.out (fun j hj e=>by have:=(HK1.out.lt j e).1;omega))
     have RELS:=zH (fun (j:Nat) (r:RawF) (x:Fr) hr hx=>elF_ok.on OWU.out.size (fun g hg hl=>OWU.out.block g hl (fun (e:g=p)=>by have:=hg.1;omega)) (fun _ h _=>h) x r (HK3.out j r x hr hx))
     clear hy hPY hOY hA b1
     go_wp2_with (at_builtin;go_must (refine wp_append_at rfl _ _ 35 40 rfl Tryz.underlying35 _ 64 Tryz.info_from rfl (by omega) elF_ok.len RawF.one w.heap.size _ K rfl OWN.out _ 1 1 [⟨gt,ga,gk,gq,gn,gc⟩] rfl rfl 0 _ (one_block elF_ok.len 40 #[.string gt,.string ga,.int .i64 gk,.slice gq gn gc] ⟨gt,ga,gk,gq,gn,gc⟩ rfl _ rfl) ?kr ?ka ?kb ?_))
     case kr=>rw[← HN.out];unfold maxLen;have h1:=HN.out;have h2:=HK2.out;simp;omega
     case ka=>rw[← HN.out];have h1:=HN.out;have h2:=HK2.out;simp;omega
     case kb=>exact Nat.le_trans hbW hWU
     intro v' w' ON bN oN hat
     have hlt:=fun k (e:(Value.slice q n c).ownBlock=some k)=>(HK1.out.lt k e).2
     have GR:=zH (LsO.grown elF_ok (W:=W) (U:=Y.alloc (.cells #[.string gt,.string ga,.int .i64 gk,.slice gq gn gc] 40)) HK2.out RELS.out hlt (elF_ok.on (Nat.le_refl _) (fun _ _ _=>rfl) (fun g hg _=>Nat.le_trans hWX hg) y _ HY.out) hbW hWU ON oN (by rcases hat with h | h;exact .inl h;exact .inr (by simpa using h)))
     have NB:∀ j,(Value.slice q n c).ownBlock=some j→p<j:=fun j e=>by have:=(HK1.out.lt j e).1;omega
     have PN:=zH (HPU.out.outs oN NB)
     have ONw:=zH (Out.down (w:=w) ((PUU.out.up (N:=w.heap.size)).trans (oN.mono fun j _ hj=>.inr (by have:=(HK1.out.lt j hj).1;omega))))
     have hm1:=PN.out.restLen
     have hm2:=HP.out.restLen
     have hl8:(L++[y]).length+r'.length≤402:=by have:=HLEN.out;simp;omega
     clear ON bN oN hat NB hlt
     go_wp2_with fail
     go_roundw
     case rel=>exact⟨L++[y],r',HQ2.out,GR.out,PN.out,hl8,ONw.out⟩
     case measure=>exact lt_of_eq_of_lt hm1 (by rw[hm2];have:=HLEN.out;omega)
   | false =>
    rw[h1] at SA
    have H1:=zH h1
    clear h1
    go_wp2_with fail
    refine SA.out.mono ?_
    rintro e X ⟨rfl,hb⟩
    have BX:=zH hb
    have SB:=zH (sees_any p z k l' kwJoin X (HP.out.below hb))
    clear hb SA
    cases h2:hSees kwJoin l' with
    | true =>
     have HC:=zH (show (hSees [44] l' || hSees kwJoin l')=true by rw[h2];simp)
     have GO:∀ X:World,Hid (Below W.heap.size W X)→Calls Tryz.prog 73 #[.pointer (some ⟨p,0,none⟩),.int .i64 (n:Int)] X (Ans FrV p z k (bInner z orr n l') X):=fun X hX=>inner_any p z k orr HCC.out n l' X (HP.out.below hX.out)
     rw[h2] at SB
     clear h2
     go_wp2_with fail
     refine SB.out.mono ?_
     rintro e X2 ⟨rfl,hb⟩
     have BX2:=zH (BX.out.trans (hb.mono BX.out.size))
     clear hb SB
     have HPX:=zH (HP.out.below BX2.out)
     have POX:=zH (HO.out.trans (Out.of BX2.out))
     have CX:=zH (GO X2 BX2)
     have hWX:=BX2.out.size
     cases hr2:bInner z orr n l' with
     | err er a =>
      have HR2:=zH hr2
      have HRES:=zH (show bTables z orr l=.err er a by
       have h:moreW [44] kwJoin (bInner z orr) [f0] r0=.err er a:=by rw[← HQ.out,moreW_err HC.out (by rw[← HK2.out,← HN.out];exact hr2)]
       rw[RES.out,h];rfl)
      clear hr2
      go_wp2_with fail
      refine CX.out.mono ?_
      intro e Y hA
      obtain⟨rfl,hE,hO⟩:=hA.err HR2.out
      go_wp2_with fail
      exact⟨rfl,Ans.mkErr HRES.out hE (PRE.out.trans (POX.out.trans hO))⟩
     | ok y r' =>
      have HR2:=zH hr2
      have HQ2:=zH (show moreW [44] kwJoin (bInner z orr) (L++[y]) r'=moreW [44] kwJoin (bInner z orr) [f0] r0 by rw[← HQ.out,moreW_some (bInner_shr z HSH.out) HC.out (by rw[← HK2.out,← HN.out];exact hr2)])
      have HLEN:=zH (show r'.length<l'.length from (bInner_shr z HSH.out n).len hr2)
      clear hr2
      go_wp2_with fail
      refine CX.out.mono ?_
      intro e Y hA
      obtain⟨⟨v,rfl,⟨⟨gt,ga,gk,gq,gn,gc⟩,rfl,hy⟩⟩,hPY,hOY⟩:=hA.ok HR2.out
      have OWY:=zH ((Out.of (S:=fun j=>j=p) BX2.out).trans hOY)
      have POY:=zH (POX.out.trans hOY)
      have b1:Below Y.heap.size Y (Y.alloc (.cells #[.string gt,.string ga,.int .i64 gk,.slice gq gn gc] 40)):=ext_alloc (ext_refl _) _
      have HPU:=zH (hPY.below b1)
      have HY:=zH (elF_ok.on b1.size (fun j _ hl=>b1.block j hl) (fun _ h _=>h) y ⟨gt,ga,gk,gq,gn,gc⟩ hy)
      have OWU:=zH (OWY.out.trans (Out.of b1))
      have PUU:=zH (POY.out.trans (Out.of b1))
      have hWU:=OWU.out.size
      have OWN:=zH (HK1.out.kept (S:=fun j=>j=p) OWU.out (fun j hj e=>by have:=(HK1.out.lt j e).1;omega))
      have RELS:=zH (fun (j:Nat) (r:RawF) (x:Fr) hr hx=>elF_ok.on OWU.out.size (fun g hg hl=>OWU.out.block g hl (fun (e:g=p)=>by have:=hg.1;omega)) (fun _ h _=>h) x r (HK3.out j r x hr hx))
      clear hy hPY hOY hA b1
      go_wp2_with (at_builtin;go_must (refine wp_append_at rfl _ _ 35 40 rfl Tryz.underlying35 _ 64 Tryz.info_from rfl (by omega) elF_ok.len RawF.one w.heap.size _ K rfl OWN.out _ 1 1 [⟨gt,ga,gk,gq,gn,gc⟩] rfl rfl 0 _ (one_block elF_ok.len 40 #[.string gt,.string ga,.int .i64 gk,.slice gq gn gc] ⟨gt,ga,gk,gq,gn,gc⟩ rfl _ rfl) ?kr ?ka ?kb ?_))
      case kr=>rw[← HN.out];unfold maxLen;have h1:=HN.out;have h2:=HK2.out;simp;omega
      case ka=>rw[← HN.out];have h1:=HN.out;have h2:=HK2.out;simp;omega
      case kb=>exact Nat.le_trans hbW hWU
      intro v' w' ON bN oN hat
      have hlt:=fun k (e:(Value.slice q n c).ownBlock=some k)=>(HK1.out.lt k e).2
      have GR:=zH (LsO.grown elF_ok (W:=W) (U:=Y.alloc (.cells #[.string gt,.string ga,.int .i64 gk,.slice gq gn gc] 40)) HK2.out RELS.out hlt (elF_ok.on (Nat.le_refl _) (fun _ _ _=>rfl) (fun g hg _=>Nat.le_trans hWX hg) y _ HY.out) hbW hWU ON oN (by rcases hat with h | h;exact .inl h;exact .inr (by simpa using h)))
      have NB:∀ j,(Value.slice q n c).ownBlock=some j→p<j:=fun j e=>by have:=(HK1.out.lt j e).1;omega
      have PN:=zH (HPU.out.outs oN NB)
      have ONw:=zH (Out.down (w:=w) ((PUU.out.up (N:=w.heap.size)).trans (oN.mono fun j _ hj=>.inr (by have:=(HK1.out.lt j hj).1;omega))))
      have hm1:=PN.out.restLen
      have hm2:=HP.out.restLen
      have hl8:(L++[y]).length+r'.length≤402:=by have:=HLEN.out;simp;omega
      clear ON bN oN hat NB hlt
      go_wp2_with fail
      go_roundw
      case rel=>exact⟨L++[y],r',HQ2.out,GR.out,PN.out,hl8,ONw.out⟩
      case measure=>exact lt_of_eq_of_lt hm1 (by rw[hm2];have:=HLEN.out;omega)
    | false =>
     have HDONE:=zH (show moreW [44] kwJoin (bInner z orr) [f0] r0=.ok L l' by rw[← HQ.out,moreW_none (by rw[H1.out,h2];rfl)])
     rw[h2] at SB
     clear h2
     go_wp2_with fail
     refine SB.out.mono ?_
     rintro e X2 ⟨rfl,hb⟩
     have BX2:=zH (BX.out.trans (hb.mono BX.out.size))
     have HPE:=zH (HP.out.below BX2.out)
     have HLE:=zH (HL.out.outs elF_ok (Out.of (S:=fun _=>False) BX2.out) (fun _ h _=>h.elim))
     have HOE:=zH (HO.out.trans (Out.of BX2.out))
     have hX2W:=BX2.out.size
     clear hb SB BX HN HK1 HK2 HK3 HL HP HO HQ
     obtain⟨L1,hL1⟩:∃ L1,L1=L:=⟨_,rfl⟩
     obtain⟨l1',hl1'⟩:∃ l1',l1'=l':=⟨_,rfl⟩
     obtain⟨q1,hq1⟩:∃ q1,q1=q:=⟨_,rfl⟩
     obtain⟨n1,hn1⟩:∃ n1,n1=n:=⟨_,rfl⟩
     obtain⟨c1,hc1⟩:∃ c1,c1=c:=⟨_,rfl⟩
     obtain⟨E,hE⟩:∃ E,E=X2:=⟨_,rfl⟩
     rw[← hL1] at HLE HDONE h8
     rw[← hl1'] at HPE HDONE h8
     rw[← hq1,← hn1,← hc1] at HLE ⊢
     rw[← hE] at HPE HLE HOE ⊢
     have DONE1:=zH HDONE.out
     have COREK:=zH HLE.out
     have CORELT:=zH (show ∀ k0,(Value.slice q1 n1 c1).ownBlock=some k0→k0<E.heap.size from fun k0 e=>by obtain⟨K0,h0,-⟩:=HLE.out.own;exact (h0.lt k0 e).2)
     have PRE1:=zH HOE.out
     have hwE:w.heap.size≤E.heap.size:=HOE.out.size
     have hpE:=HPE.out.lt
     have LO2:=zH (LsO.nil (T:=elF) E E.heap.size)
     have HP2:=zH HPE.out
     clear hL1 hl1' hq1 hn1 hc1 hE HLE HDONE HPE HOE HC0
     go_wp2_with fail
     have PRE:=PRE1
     clear PRE0 PRE1
     go_loopw [4] (fun v5 wr=>∃ (L:List Fr) (l':List Tok),Hid (moreW kwLeft kwSemi (bOuter z orr) L l'=moreW kwLeft kwSemi (bOuter z orr) [] l1')∧Hid (LsO elF wr E.heap.size v5 L)∧Hid (PSt wr p z l' k)∧L.length+l'.length≤402∧Hid (Out (fun j=>j=p) E wr)) (fun _ wr=>restLen wr p)
     case atStart=>exact⟨[],l1',rfl,LO2.out,HP2.out,(by simp;omega),Out.refl _ _⟩
     case round =>
      obtain⟨L,l',hQ,hL,hP,h8,hO⟩:=hrel
      obtain⟨W,hW⟩:∃ W,W=wr:=⟨_,rfl⟩
      rw[← hW] at hL hP hO ⊢
      have HQ:=zH hQ.out
      have HL:=zH hL.out
      have HP:=zH hP.out
      have HO:=zH hO.out
      obtain⟨K,hK1,hK2,hK3⟩:=HL.out.own
      obtain⟨q,c,rfl,-⟩:=OwnF.arr elF_ok.len hK1
      obtain⟨n,hn⟩:∃ n,n=K.length:=⟨_,rfl⟩
      have HN:=zH hn
      rw[← hn] at hK1 hK3 HL ⊢
      have HK1:=zH hK1
      have HK2:=zH hK2
      have HK3:=zH hK3
      have hpW:=HP.out.lt
      have hbW:E.heap.size≤W.heap.size:=by have:=HO.out.size;omega
      have SA:=zH (sees_any p z k l' kwLeft W HP.out)
      clear hW hQ hL hP hO hK1 hK2 hK3 hn
      cases h1:hSees kwLeft l' with
      | true =>
       have HC:=zH (show (hSees kwLeft l' || hSees kwSemi l')=true by rw[h1];rfl)
       have GO:∀ X:World,Hid (Below W.heap.size W X)→Calls Tryz.prog 74 #[.pointer (some ⟨p,0,none⟩),.int .i64 (n:Int)] X (Ans FrV p z k (bOuter z orr n l') X):=fun X hX=>outer_any p z k orr HCC.out n l' X (HP.out.below hX.out)
       rw[h1] at SA
       clear h1
       go_wp2_with fail
       refine SA.out.mono ?_
       rintro e X ⟨rfl,hb⟩
       have BX:=zH hb
       clear hb SA
       have HPX:=zH (HP.out.below BX.out)
       have POX:=zH (HO.out.trans (Out.of BX.out))
       have CX:=zH (GO X BX)
       have hWX:=BX.out.size
       cases hr2:bOuter z orr n l' with
       | err er a =>
        have HR2:=zH hr2
        have HRES:=zH (show bTables z orr l=.err er a by
         have h:moreW kwLeft kwSemi (bOuter z orr) [] l1'=.err er a:=by rw[← HQ.out,moreW_err HC.out (by rw[← HK2.out,← HN.out];exact hr2)]
         rw[RES.out,DONE1.out,bind_ok,h];rfl)
        clear hr2
        go_wp2_with fail
        refine CX.out.mono ?_
        intro e Y hA
        obtain⟨rfl,hE,hO⟩:=hA.err HR2.out
        go_wp2_with fail
        exact⟨rfl,Ans.mkErr HRES.out hE (PRE.out.trans (POX.out.trans hO))⟩
       | ok y r' =>
        have HR2:=zH hr2
        have HQ2:=zH (show moreW kwLeft kwSemi (bOuter z orr) (L++[y]) r'=moreW kwLeft kwSemi (bOuter z orr) [] l1' by rw[← HQ.out,moreW_some (bOuter_shr z HSH.out) HC.out (by rw[← HK2.out,← HN.out];exact hr2)])
        have HLEN:=zH (show r'.length<l'.length from (bOuter_shr z HSH.out n).len hr2)
        clear hr2
        go_wp2_with fail
        refine CX.out.mono ?_
        intro e Y hA
        obtain⟨⟨v,rfl,⟨⟨gt,ga,gk,gq,gn,gc⟩,rfl,hy⟩⟩,hPY,hOY⟩:=hA.ok HR2.out
        have OWY:=zH ((Out.of (S:=fun j=>j=p) BX.out).trans hOY)
        have POY:=zH (POX.out.trans hOY)
        have b1:Below Y.heap.size Y (Y.alloc (.cells #[.string gt,.string ga,.int .i64 gk,.slice gq gn gc] 40)):=ext_alloc (ext_refl _) _
        have HPU:=zH (hPY.below b1)
        have HY:=zH (elF_ok.on b1.size (fun j _ hl=>b1.block j hl) (fun _ h _=>h) y ⟨gt,ga,gk,gq,gn,gc⟩ hy)
        have OWU:=zH (OWY.out.trans (Out.of b1))
        have PUU:=zH (POY.out.trans (Out.of b1))
        have hWU:=OWU.out.size
        have OWN:=zH (HK1.out.kept (S:=fun j=>j=p) OWU.out (fun j hj e=>by have:=(HK1.out.lt j e).1;omega))
        have RELS:=zH (fun (j:Nat) (r:RawF) (x:Fr) hr hx=>elF_ok.on OWU.out.size (fun g hg hl=>OWU.out.block g hl (fun (e:g=p)=>by have:=hg.1;omega)) (fun _ h _=>h) x r (HK3.out j r x hr hx))
        clear hy hPY hOY hA b1
        go_wp2_with (at_builtin;go_must (refine wp_append_at rfl _ _ 35 40 rfl Tryz.underlying35 _ 64 Tryz.info_from rfl (by omega) elF_ok.len RawF.one E.heap.size _ K rfl OWN.out _ 1 1 [⟨gt,ga,gk,gq,gn,gc⟩] rfl rfl 0 _ (one_block elF_ok.len 40 #[.string gt,.string ga,.int .i64 gk,.slice gq gn gc] ⟨gt,ga,gk,gq,gn,gc⟩ rfl _ rfl) ?kr ?ka ?kb ?_))
        case kr=>rw[← HN.out];unfold maxLen;have h1:=HN.out;have h2:=HK2.out;simp;omega
        case ka=>rw[← HN.out];have h1:=HN.out;have h2:=HK2.out;simp;omega
        case kb=>exact Nat.le_trans hbW hWU
        intro v' w' ON bN oN hat
        have hlt:=fun k (e:(Value.slice q n c).ownBlock=some k)=>(HK1.out.lt k e).2
        have GR:=zH (LsO.grown elF_ok (W:=W) (U:=Y.alloc (.cells #[.string gt,.string ga,.int .i64 gk,.slice gq gn gc] 40)) HK2.out RELS.out hlt (elF_ok.on (Nat.le_refl _) (fun _ _ _=>rfl) (fun g hg _=>Nat.le_trans hWX hg) y _ HY.out) hbW hWU ON oN (by rcases hat with h | h;exact .inl h;exact .inr (by simpa using h)))
        have NB:∀ j,(Value.slice q n c).ownBlock=some j→p<j:=fun j e=>by have:=(HK1.out.lt j e).1;omega
        have PN:=zH (HPU.out.outs oN NB)
        have ONw:=zH (Out.down (w:=E) ((PUU.out.up (N:=E.heap.size)).trans (oN.mono fun j _ hj=>.inr (by have:=(HK1.out.lt j hj).1;omega))))
        have hm1:=PN.out.restLen
        have hm2:=HP.out.restLen
        have hl8:(L++[y]).length+r'.length≤402:=by have:=HLEN.out;simp;omega
        clear ON bN oN hat NB hlt
        go_wp2_with fail
        go_roundw
        case rel=>exact⟨L++[y],r',HQ2.out,GR.out,PN.out,hl8,ONw.out⟩
        case measure=>exact lt_of_eq_of_lt hm1 (by rw[hm2];have:=HLEN.out;omega)
      | false =>
       rw[h1] at SA
       have H1:=zH h1
       clear h1
       go_wp2_with fail
       refine SA.out.mono ?_
       rintro e X ⟨rfl,hb⟩
       have BX:=zH hb
       have SB:=zH (sees_any p z k l' kwSemi X (HP.out.below hb))
       clear hb SA
       cases h2:hSees kwSemi l' with
       | true =>
        have HC:=zH (show (hSees kwLeft l' || hSees kwSemi l')=true by rw[h2];simp)
        have GO:∀ X:World,Hid (Below W.heap.size W X)→Calls Tryz.prog 74 #[.pointer (some ⟨p,0,none⟩),.int .i64 (n:Int)] X (Ans FrV p z k (bOuter z orr n l') X):=fun X hX=>outer_any p z k orr HCC.out n l' X (HP.out.below hX.out)
        rw[h2] at SB
        clear h2
        go_wp2_with fail
        refine SB.out.mono ?_
        rintro e X2 ⟨rfl,hb⟩
        have BX2:=zH (BX.out.trans (hb.mono BX.out.size))
        clear hb SB
        have HPX:=zH (HP.out.below BX2.out)
        have POX:=zH (HO.out.trans (Out.of BX2.out))
        have CX:=zH (GO X2 BX2)
        have hWX:=BX2.out.size
        cases hr2:bOuter z orr n l' with
        | err er a =>
         have HR2:=zH hr2
         have HRES:=zH (show bTables z orr l=.err er a by
          have h:moreW kwLeft kwSemi (bOuter z orr) [] l1'=.err er a:=by rw[← HQ.out,moreW_err HC.out (by rw[← HK2.out,← HN.out];exact hr2)]
          rw[RES.out,DONE1.out,bind_ok,h];rfl)
         clear hr2
         go_wp2_with fail
         refine CX.out.mono ?_
         intro e Y hA
         obtain⟨rfl,hE,hO⟩:=hA.err HR2.out
         go_wp2_with fail
         exact⟨rfl,Ans.mkErr HRES.out hE (PRE.out.trans (POX.out.trans hO))⟩
        | ok y r' =>
         have HR2:=zH hr2
         have HQ2:=zH (show moreW kwLeft kwSemi (bOuter z orr) (L++[y]) r'=moreW kwLeft kwSemi (bOuter z orr) [] l1' by rw[← HQ.out,moreW_some (bOuter_shr z HSH.out) HC.out (by rw[← HK2.out,← HN.out];exact hr2)])
         have HLEN:=zH (show r'.length<l'.length from (bOuter_shr z HSH.out n).len hr2)
         clear hr2
         go_wp2_with fail
         refine CX.out.mono ?_
         intro e Y hA
         obtain⟨⟨v,rfl,⟨⟨gt,ga,gk,gq,gn,gc⟩,rfl,hy⟩⟩,hPY,hOY⟩:=hA.ok HR2.out
         have OWY:=zH ((Out.of (S:=fun j=>j=p) BX2.out).trans hOY)
         have POY:=zH (POX.out.trans hOY)
         have b1:Below Y.heap.size Y (Y.alloc (.cells #[.string gt,.string ga,.int .i64 gk,.slice gq gn gc] 40)):=ext_alloc (ext_refl _) _
         have HPU:=zH (hPY.below b1)
         have HY:=zH (elF_ok.on b1.size (fun j _ hl=>b1.block j hl) (fun _ h _=>h) y ⟨gt,ga,gk,gq,gn,gc⟩ hy)
         have OWU:=zH (OWY.out.trans (Out.of b1))
         have PUU:=zH (POY.out.trans (Out.of b1))
         have hWU:=OWU.out.size
         have OWN:=zH (HK1.out.kept (S:=fun j=>j=p) OWU.out (fun j hj e=>by have:=(HK1.out.lt j e).1;omega))
         have RELS:=zH (fun (j:Nat) (r:RawF) (x:Fr) hr hx=>elF_ok.on OWU.out.size (fun g hg hl=>OWU.out.block g hl (fun (e:g=p)=>by have:=hg.1;omega)) (fun _ h _=>h) x r (HK3.out j r x hr hx))
         clear hy hPY hOY hA b1
         go_wp2_with (at_builtin;go_must (refine wp_append_at rfl _ _ 35 40 rfl Tryz.underlying35 _ 64 Tryz.info_from rfl (by omega) elF_ok.len RawF.one E.heap.size _ K rfl OWN.out _ 1 1 [⟨gt,ga,gk,gq,gn,gc⟩] rfl rfl 0 _ (one_block elF_ok.len 40 #[.string gt,.string ga,.int .i64 gk,.slice gq gn gc] ⟨gt,ga,gk,gq,gn,gc⟩ rfl _ rfl) ?kr ?ka ?kb ?_))
         case kr=>rw[← HN.out];unfold maxLen;have h1:=HN.out;have h2:=HK2.out;simp;omega
         case ka=>rw[← HN.out];have h1:=HN.out;have h2:=HK2.out;simp;omega
         case kb=>exact Nat.le_trans hbW hWU
         intro v' w' ON bN oN hat
         have hlt:=fun k (e:(Value.slice q n c).ownBlock=some k)=>(HK1.out.lt k e).2
         have GR:=zH (LsO.grown elF_ok (W:=W) (U:=Y.alloc (.cells #[.string gt,.string ga,.int .i64 gk,.slice gq gn gc] 40)) HK2.out RELS.out hlt (elF_ok.on (Nat.le_refl _) (fun _ _ _=>rfl) (fun g hg _=>Nat.le_trans hWX hg) y _ HY.out) hbW hWU ON oN (by rcases hat with h | h;exact .inl h;exact .inr (by simpa using h)))
         have NB:∀ j,(Value.slice q n c).ownBlock=some j→p<j:=fun j e=>by have:=(HK1.out.lt j e).1;omega
         have PN:=zH (HPU.out.outs oN NB)
         have ONw:=zH (Out.down (w:=E) ((PUU.out.up (N:=E.heap.size)).trans (oN.mono fun j _ hj=>.inr (by have:=(HK1.out.lt j hj).1;omega))))
         have hm1:=PN.out.restLen
         have hm2:=HP.out.restLen
         have hl8:(L++[y]).length+r'.length≤402:=by have:=HLEN.out;simp;omega
         clear ON bN oN hat NB hlt
         go_wp2_with fail
         go_roundw
         case rel=>exact⟨L++[y],r',HQ2.out,GR.out,PN.out,hl8,ONw.out⟩
         case measure=>exact lt_of_eq_of_lt hm1 (by rw[hm2];have:=HLEN.out;omega)
       | false =>
        have HDONE:=zH (show moreW kwLeft kwSemi (bOuter z orr) [] l1'=.ok L l' by rw[← HQ.out,moreW_none (by rw[H1.out,h2];rfl)])
        rw[h2] at SB
        clear h2
        go_wp2_with fail
        refine SB.out.mono ?_
        rintro e X2 ⟨rfl,hb⟩
        have BX2:=zH (BX.out.trans (hb.mono BX.out.size))
        have HPE:=zH (HP.out.below BX2.out)
        have HLE:=zH (HL.out.outs elF_ok (Out.of (S:=fun _=>False) BX2.out) (fun _ h _=>h.elim))
        have HOE:=zH (HO.out.trans (Out.of BX2.out))
        have hX2W:=BX2.out.size
        clear hb SB BX HN HK1 HK2 HK3 HL HP HO HQ
        obtain⟨K2,hK21,hK22,hK23⟩:=HLE.out.own
        obtain⟨q2,c2,e2,-,-,-,hsrc⟩:=OwnF.arr elF_ok.len hK21
        simp only[Value.slice.injEq] at e2
        obtain⟨rfl,hn2,rfl⟩:=e2
        have COREX:=(COREK.out.outs elF_ok (S:=fun j=>j=p) HOE.out (fun j hj _=>by omega))
        obtain⟨K1,hK11,hK12,hK13⟩:=COREX.own
        obtain⟨q1x,c1x,e1,-⟩:=OwnF.arr elF_ok.len hK11
        simp only[Value.slice.injEq] at e1
        obtain⟨rfl,hn1,rfl⟩:=e1
        have H11:=zH hK11
        have H12:=zH hK12
        have H13:=zH hK13
        have H22:=zH hK22
        have H23:=zH hK23
        have HS:=zH hsrc
        have HN2:=zH hn2
        have HN1:=zH hn1
        have hszX:E.heap.size≤X2.heap.size:=HOE.out.size
        have hE0:w.heap.size≤E.heap.size:=by omega
        clear hK11 hK12 hK13 hK21 hK22 hK23 hsrc COREX HLE hn1 hn2
        go_wp2_with (at_builtin;go_must (refine wp_append_at rfl _ _ 35 40 rfl Tryz.underlying35 _ 64 Tryz.info_from rfl (by omega) elF_ok.len RawF.one w.heap.size _ K1 rfl H11.out _ n c K2 HN2.out rfl E.heap.size X2.heap.size HS.out ?kr ?ka ?kb ?_))
        case kr=>have h1:=H12.out;have h2:=H22.out;unfold maxLen;omega
        case ka=>have h1:=H12.out;have h2:=H22.out;omega
        case kb=>omega
        intro v' w' ON bN oN hat
        have JO:=LsO.joined elF_ok (U:=X2) (b:=w.heap.size) (B:=E.heap.size) H12.out H13.out (fun k0 e=>CORELT.out k0 e) hE0 H22.out H23.out ON oN hat
        obtain⟨qz,cz,hz,hz2,hz3,hz4⟩:=JO.read elF_ok
        have NB:∀ j,(Value.slice q1 n1 c1).ownBlock=some j→p<j:=fun j e=>by have:=(H11.out.lt j e).1;omega
        have PN:=zH (HPE.out.outs oN NB)
        have ONw:=zH (Out.down (w:=w) (((PRE.out.trans HOE.out).up (N:=w.heap.size)).trans (oN.mono fun j _ hj=>.inr (by have:=(H11.out.lt j hj).1;omega))))
        have HV:=zH (show LsV elF w.heap.size w' (L1++L) v' from ⟨qz,cz,hz,hz2,hz3,hz4⟩)
        have HRES:=zH (show bTables z orr l=.ok (L1++L) l' by rw[RES.out,DONE1.out,bind_ok,HDONE.out];rfl)
        clear ON bN oN hat NB JO hz2 hz3 hz4
        go_wp2_with fail
        exact bodyPost_ret (v:=v') (by simp[results,Tryz.results51,go_sem]) rfl (Ans.mkOk HRES.out HV.out PN.out ONw.out)
end Go.Proofs.YtapbglhjamddbaaGreatDoor
