/- A part of the proof. -/
import Derived.Test.YtapbglhjamddbaaGreatDoorKp
import Derived.Deep.CutBlock
import Derived.Test.YtapbglhjamddbaaGreatDoorHd
set_option linter.unusedSimpArgs false
set_option linter.unusedVariables false
namespace Go.Proofs.YtapbglhjamddbaaGreatDoor
open Go.RowKit Go.Deep
set_option maxRecDepth 100000
theorem room2 {K:List RawK} (h:K.length≤8):K.length+1≤maxLen∧(K.length+1)*16≤140737488355328:=by
 unfold maxLen
 omega
def LsK (b:Nat) (w:World) (xs:List Ky) (v:Value):Prop:=∃ q c,v=.slice q xs.length c∧xs.length≤c∧LsM elK w (fun g=>b≤g) q xs
theorem elK_rel {w w':World} {P Q:Nat→Prop} {x:Ky} {r:RawK} (h:elK.rel w P x r):elK.rel w' Q x r:=h
set_option maxHeartbeats 16000000 in
theorem rkeys_any {p z k:Nat} {T:List Tok} (res:PR (List Ky)) (w:World) (h:St0 w p z T k (listP z (bKey z)) res):Calls Tryz.prog 17 #[.pointer (some ⟨p,0,none⟩)] w (RAns LsK ShS p z T k res w):=by
 have lp:=h.lt
 have H0:=zH (show (∃ L l,RO w p z T l k∧([]:List RawK).length=L.length∧(∀ (j:Nat) (r:RawK) (x:Ky),([]:List RawK)[j]?=some r→L[j]?=some x→elK.rel w (fun g=>w.heap.size≤g∧(Value.slice none 0 0).ownBlock≠some g) x r)∧hdF z (bKey z) L l=res)∨∃ er a,res=.err er a∧RE w p z T er a from by
  rcases h with ⟨l,h1,h2⟩ |⟨er,a,h1,h2⟩
  ·exact .inl ⟨[],l,h1,rfl,fun j r x hr=>by simp at hr,h2⟩
  ·exact .inr ⟨er,a,h1,h2⟩)
 clear h
 go_enter Tryz.func17,Tryz.ntmps17
 go_wp2_with fail
 go_loopw [3] (fun v3 wr=>∃ K:List RawK,OwnF wr w.heap.size 72 2 RawK.cells v3 K∧K.length≤8∧Hid (Out (fun j=>j=p) w wr)∧Hid ((∃ L l,RO wr p z T l k∧K.length=L.length∧(∀ (j:Nat) (r:RawK) (x:Ky),K[j]?=some r→L[j]?=some x→elK.rel wr (fun g=>w.heap.size≤g∧v3.ownBlock≠some g) x r)∧hdF z (bKey z) L l=res)∨∃ er a,res=.err er a∧RE wr p z T er a)) (fun _ wr=>rleft wr p)
 case atStart=>exact⟨[],OwnF.nil _ _ _,Nat.zero_le _,Out.of (ext_refl _),H0.out⟩
 case round =>
  obtain⟨K,hO,hK8,hOut,hS⟩:=hrel
  obtain⟨W,hW⟩:∃ W,W=wr:=⟨_,rfl⟩
  rw[← hW] at hO hOut hS ⊢
  obtain⟨q,c,rfl,-⟩:=OwnF.arr elK_ok.len hO
  have HN9:=zH hK8
  have OW:=zH hOut.out
  have OWNW:=zH hO
  have hwW:=hOut.out.size
  clear hW hO hOut H0
  obtain⟨n,hn⟩:∃ n,n=K.length:=⟨_,rfl⟩
  have HNN:=zH hn
  rw[← hn]
  rw[← hn] at hK8 OWNW hS
  rcases hS.out with ⟨L,l,hR,hKL,hrel,hq⟩ |⟨er,a,hres,hE⟩
  ·have HR:=zH hR
   have HKL:=zH (HNN.out.symm.trans hKL)
   have HREL0:=zH hrel
   obtain⟨j0,pl0,e0,hs0⟩:=hR.st
   have CH:=zH (rhere_any p z T j0 0 pl0 k W hs0)
   rw[← e0] at CH
   have HLW:=zH hR.left
   obtain⟨⟨kd,tn,ta,ts⟩,ht⟩:∃ t,t=hd z l:=⟨_,rfl⟩
   rw[← ht] at CH
   have HT:=zH ht
   clear hR hrel hKL e0 hs0 hS
   by_cases h8:n=8
   ·have e8:((n:Int) == 8)=true:=by rw[beq_iff_eq];omega
    have HRES:=zH (show res=.err 5 (hAt z l) by rw[← hq];unfold hdF;rw[if_pos (by have:=HKL.out;omega)])
    clear hq ht hn h8
    go_wp2_with fail
    refine CH.out.mono ?_
    rintro e0 V ⟨rfl,hb⟩
    obtain⟨Y,hY⟩:∃ V0,V0=V.alloc (.cells #[.int .i64 (kd:Int),.int .i64 (tn:Int),.int .i64 (ta:Int),.string (bsB ts)] 82):=⟨_,rfl⟩
    have bY:Below V.heap.size V Y:=by rw[hY];exact ext_alloc (ext_refl _) _
    have kY:BkA Y V.heap.size [.int .i64 (kd:Int),.int .i64 (tn:Int),.int .i64 (ta:Int),.string (bsB ts)]:=by rw[hY];exact BkA.new V [.int .i64 (kd:Int),.int .i64 (tn:Int),.int .i64 (ta:Int),.string (bsB ts)] 82
    have hYW:=hb.trans (bY.mono hb.size)
    have OWY:=zH (OWNW.out.later hYW)
    have OY:=zH (OW.out.trans (Out.of hYW))
    have TY:=zH kY
    have HBY:=zH hYW
    have HY:=zH hY
    have hsY:=hYW.size
    have hpk:p<V.heap.size:=Nat.lt_of_lt_of_le (Nat.lt_of_lt_of_le lp hwW) hb.size
    clear hb hY bY kY hYW
    go_upto_region 3 with fail
    rw[← HY.out]
    clear HY
    obtain⟨gk,hgk⟩:∃ g,g=V.heap.size:=⟨_,rfl⟩
    rw[← hgk] at TY hpk ⊢
    clear hgk
    have NO:=zH (rno_ok 5 (by decide) (HR.out.below HBY.out))
    go_wp2_with fail
    refine NO.out.mono ?_
    rintro e1 V0 ⟨rfl,hE,hO0⟩
    obtain⟨er,her⟩:∃ e:Nat,e=5:=⟨_,rfl⟩
    obtain⟨a,ha⟩:∃ b,b=hAt z l:=⟨_,rfl⟩
    rw[← her,← ha] at HRES hE
    have HE0:=zH hE
    have O0:=zH (OY.out.trans hO0)
    clear her ha hE hO0 NO e8
    have N7:=zH (rno_more p z T er a 7 _ HE0.out)
    obtain⟨dd,-,-,lpV,c3,-⟩:=HE0.out.deep
    have hne:((er:Int) != 0)=true:=by rw[bne_iff_ne];have:=HE0.out.ne;omega
    go_wp2_with fail
    refine N7.out.mono ?_
    rintro e3 V3 ⟨rfl,hb3⟩
    have RR:=zH (HE0.out.below hb3)
    have OO:=zH (O0.out.trans (Out.of hb3))
    clear hb3 N7
    go_wp2_with fail
    exact bodyPost_ret (v:=.slice q n c) (by simp[results,Tryz.results17,go_sem]) rfl (RAns.mkErr HRES.out OO.out ⟨_,_,_,rfl⟩ RR.out)
   ·have e8:((n:Int) == 8)=false:=by rw[beq_eq_false_iff_ne];omega
    have HN7:=zH (show K.length≤7 by have:=HNN.out;omega)
    have HQ:=zH (show (bKey z l).bind (fun x r=>listW z (bKey z) (L++[x]) r)=res by rw[← hq];unfold hdF;rw[if_neg (by have:=HKL.out;have:=HNN.out;omega)])
    clear hq
    by_cases h3:kd=3
    ·subst h3
     cases l with
     | nil=>cases ht
     | cons t r =>
     obtain rfl:t=⟨3,tn,ta,ts⟩:=ht.symm
     obtain⟨l0,hl0⟩:∃ m,m=rleft W p - 1:=⟨_,rfl⟩
     have HLR0:=zH (show r.length+1≤l0 from by rw[hl0,HLW.out];simp)
     replace HLW:Hid (l0<rleft W p):=zH (by rw[hl0,HLW.out];simp)
     clear ht hn h8 hl0 HT
     go_wp2_with fail
     refine CH.out.mono ?_
     rintro e0 V ⟨rfl,hb⟩
     obtain⟨Y,hY⟩:∃ V0,V0=V.alloc (.cells #[.int .i64 3,.int .i64 (tn:Int),.int .i64 (ta:Int),.string (bsB ts)] 82):=⟨_,rfl⟩
     have bY:Below V.heap.size V Y:=by rw[hY];exact ext_alloc (ext_refl _) _
     have kY:BkA Y V.heap.size [.int .i64 3,.int .i64 (tn:Int),.int .i64 (ta:Int),.string (bsB ts)]:=by rw[hY];exact BkA.new V [.int .i64 3,.int .i64 (tn:Int),.int .i64 (ta:Int),.string (bsB ts)] 82
     have hYW:=hb.trans (bY.mono hb.size)
     have OWY:=zH (OWNW.out.later hYW)
     have OY:=zH (OW.out.trans (Out.of hYW))
     have TY:=zH kY
     have HBY:=zH hYW
     have HY:=zH hY
     have hsY:=hYW.size
     have hpk:p<V.heap.size:=Nat.lt_of_lt_of_le (Nat.lt_of_lt_of_le lp hwW) hb.size
     clear hb hY bY kY hYW
     go_upto_region 3 with fail
     rw[← HY.out]
     clear HY
     obtain⟨gk,hgk⟩:∃ g,g=V.heap.size:=⟨_,rfl⟩
     rw[← hgk] at TY hpk ⊢
     clear hgk
     have HRY:=zH (HR.out.below HBY.out)
     have htn:=HRY.out.toks.wf _ (List.mem_cons_self ..)
     have htn2:tn≤9223372036854775807:=htn.num
     have hsub:wrap64 ((tn:Int) - 1)=(tn:Int) - 1:=by unfold wrap64;omega
     clear htn htn2
     have t0:=TY.out.c 0 _ rfl
     have tl:=TY.out.lt
     obtain⟨j,c1,hj,fz,lpY,c3,hR2⟩:=HRY.out.next
     have hw:=wrapj hj
     have HRLY:=zH HRY.out.left
     obtain⟨Y1,hY1⟩:∃ V0,V0=Y.setCell ⟨p,1,none⟩ (.int .i64 ((j:Int)+1)):=⟨_,rfl⟩
     have o1:Out (fun j=>j=p) Y Y1:=by rw[hY1];exact out_p _ _ _ _
     replace hR2:RO Y1 p z T r k:=by rw[hY1];exact hR2
     have hgp:gk≠p:=by omega
     have T1:=zH (TY.out.outs o1 (by omega))
     have OWN1:=zH (OWY.out.kept o1 (fun j (hj:j=p) e=>by have:=(OWY.out.lt j e).1;omega))
     have O1:=zH (OY.out.trans o1)
     have HWY1:=zH (Nat.le_trans hsY o1.size)
     have HY1:=zH hY1
     clear hY1 o1 hj
     go_upto_region 9 with fail
     rw[← HY1.out]
     clear HY1 c1 fz c3 lpY hw t0 tl
     rcases RO.word hR2 (s:=kwDesc) (by decide) with ⟨td,r4,rfl,h1,hc⟩ |⟨h1,hc⟩
     ·have WD:=zH (rword_yes p z k T td r4 kwDesc Y1 hR2 hc)
      have HQ2:=zH (show listW z (bKey z) (L++[⟨(tn:Int) - 1,true⟩]) r4=res by rw[← HQ.out,bKey,if_pos rfl,if_pos h1];rfl)
      have HLR:=zH (show r4.length+2≤l0 from by have:=HLR0.out;simp only[List.length_cons] at this;omega)
      clear hR2 h1 hc
      go_wp2_with fail
      refine WD.out.mono ?_
      rintro e3 Y3 ⟨rfl,hR4,hO4⟩
      obtain⟨r3,hr3⟩:∃ x,x=r4:=⟨_,rfl⟩
      rw[← hr3] at hR4 HQ2 HLR
      have HR3:=zH hR4
      have T3:=zH (T1.out.outs hO4 hgp)
      have OWN3:=zH (OWN1.out.kept hO4 (fun j (hj:j=p) e=>by have:=(OWN1.out.lt j e).1;omega))
      have O3:=zH (O1.out.trans hO4)
      have HWY3:=zH (Nat.le_trans HWY1.out hO4.size)
      clear hR4 hO4 WD hr3
      have t1:=T3.out.c 1 _ rfl
      have tl:=T3.out.lt
      have b1:Below Y3.heap.size Y3 (Y3.alloc (.cells #[.int .i64 ((tn:Int) - 1),.bool true] 72)):=ext_alloc (ext_refl _) _
      have HBU:=zH b1
      have OWU:=zH (OWN3.out.later b1)
      have hsU:w.heap.size≤(Y3.alloc (.cells #[.int .i64 ((tn:Int) - 1),.bool true] 72)).heap.size:=Nat.le_trans O3.out.size b1.size
      have HSU:=zH hsU
      have KR:=zH (room2 HN9.out)
      clear b1 hsU
      go_wp2_with (at_builtin;go_must (refine wp_append_at rfl _ _ 24 72 rfl Tryz.underlying24 _ 16 Tryz.info_key rfl (by omega) elK_ok.len RawK.one w.heap.size _ K rfl OWU.out _ 1 1 [⟨(tn:Int) - 1,true⟩] rfl rfl 0 _ (one_block elK_ok.len 72 #[.int .i64 ((tn:Int) - 1),.bool true] ⟨(tn:Int) - 1,true⟩ rfl _ rfl) ?kr ?ka ?kb ?_))
      case kr=>exact KR.out.1
      case ka=>exact KR.out.2
      case kb=>exact HSU.out
      intro v2 M ON bN oN hat
      obtain⟨q2,c2,hv2,-⟩:=OwnF.arr elK_ok.len ON
      obtain⟨n2,hn2⟩:∃ m,m=(K++[(⟨(tn:Int) - 1,true⟩:RawK)]).length:=⟨_,rfl⟩
      rw[← hn2] at hv2
      subst hv2
      clear hn2
      have GR:=zH (LsO.grown elK_ok (W:=W) (U:=Y3.alloc (.cells #[.int .i64 ((tn:Int) - 1),.bool true] 72)) (x:=⟨(tn:Int) - 1,true⟩) (L:=L) HKL.out (fun j r x hr hx=>elK_rel (HREL0.out j r x hr hx)) (fun k e=>(OWNW.out.lt k e).2) ⟨rfl,rfl⟩ OW.out.size (Nat.le_trans HWY3.out HBU.out.size) ON oN (by rcases hat with h | h;exact .inl h;exact .inr (by simpa using h)))
      have HRM:=(HR3.out.below HBU.out).outs oN (fun j e=>by have:=(OWU.out.lt j e).1;omega)
      have HOF:=zH (Out.down (((O3.out.up (N:=w.heap.size)).trans (Out.of HBU.out)).trans (oN.mono fun j _ hj=>.inr (OWU.out.lt j hj).1)))
      clear ON bN oN hat t1 tl
      rcases HRM.sign (s:=[44]) (by decide) with ⟨t,r5,rfl,h1,hc⟩ |⟨h1,hc⟩
      ·have WS:=zH (rsign_yes p z k T t r5 [44] M HRM hc)
       have HQ3:=zH (show hdF z (bKey z) (L++[⟨(tn:Int) - 1,true⟩]) r5=res by rw[← HQ2.out,listW_eq (bKey_shr z).keep,if_pos h1];rfl)
       have HLT:=zH (show r5.length+1<rleft W p from by have h1:=HLW.out;have h2:=HLR.out;simp only[List.length_cons] at h2;omega)
       clear HRM hc h1
       go_wp2_with fail
       refine WS.out.mono ?_
       rintro e4 M2 ⟨rfl,hR3,hO3⟩
       have hm:=hR3.left
       have HRR:=zH hR3
       have HOO:=zH (HOF.out.trans hO3)
       have GR2:=zH (GR.out.outs elK_ok hO3 (fun j (hj:j=p) hl=>by omega))
       have HLL:=zH (show (L++[(⟨(tn:Int) - 1,true⟩:Ky)]).length≤8 by have h1:=HKL.out;have h2:=HN7.out;simp;omega)
       have HMM:=zH (show rleft M2 p<rleft W p by rw[hm];exact HLT.out)
       clear hR3 hO3 WS hm
       go_wp2_with fail
       go_roundw
       case rel =>
        obtain⟨K3,k1,k2,k3⟩:=GR2.out.own
        exact⟨K3,k1,by rw[k2];exact HLL.out,HOO.out,.inl ⟨L++[⟨(tn:Int) - 1,true⟩],r5,HRR.out,k2,k3,HQ3.out⟩⟩
       case measure=>exact HMM.out
      ·have WS:=zH (rsign_no p z k T _ [44] M HRM hc)
       have HQ3:=zH (show res=.ok (L++[⟨(tn:Int) - 1,true⟩]) r3 by rw[← HQ2.out,listW_eq (bKey_shr z).keep,if_neg (by rw[h1];decide)])
       have HRM:=zH HRM
       clear hc h1
       go_wp2_with fail
       refine WS.out.mono ?_
       rintro e4 M2 ⟨rfl,hb⟩
       have HRR:=zH (HRM.out.below hb)
       have HOO:=zH (HOF.out.trans (Out.of hb))
       have GR2:=zH (GR.out.outs elK_ok (Out.of (S:=fun _=>False) hb) (fun j h _=>h.elim))
       clear hb WS
       go_wp2_with fail
       obtain⟨q9,c9,e9,l9,-,m9⟩:=GR2.out.read elK_ok
       exact bodyPost_ret (v:=.slice q2 n2 c2) (by simp[results,Tryz.results17,go_sem]) rfl (RAns.mkOk HQ3.out HOO.out ⟨_,_,_,rfl⟩ ⟨q9,c9,e9,l9,m9⟩ HRR.out)
     ·have WD:=zH (rword_no p z k T r kwDesc Y1 hR2 hc)
      have HQ2:=zH (show listW z (bKey z) (L++[⟨(tn:Int) - 1,false⟩]) r=res by rw[← HQ.out,bKey,if_pos rfl,if_neg (by rw[h1];decide)];rfl)
      have HLR:=zH (show r.length+1≤l0 from by have:=HLR0.out;omega)
      have HR2:=zH hR2
      clear hR2 h1 hc
      go_wp2_with fail
      refine WD.out.mono ?_
      rintro e3 Y3 ⟨rfl,hb4⟩
      obtain⟨r3,hr3⟩:∃ x,x=r:=⟨_,rfl⟩
      rw[← hr3] at HR2 HQ2 HLR
      have HR3:=zH (HR2.out.below hb4)
      have T3:=zH (T1.out.on hb4)
      have OWN3:=zH (OWN1.out.later hb4)
      have O3:=zH (O1.out.trans (Out.of hb4))
      have HWY3:=zH (Nat.le_trans HWY1.out hb4.size)
      clear hb4 WD hr3
      have t1:=T3.out.c 1 _ rfl
      have tl:=T3.out.lt
      have b1:Below Y3.heap.size Y3 (Y3.alloc (.cells #[.int .i64 ((tn:Int) - 1),.bool false] 72)):=ext_alloc (ext_refl _) _
      have HBU:=zH b1
      have OWU:=zH (OWN3.out.later b1)
      have hsU:w.heap.size≤(Y3.alloc (.cells #[.int .i64 ((tn:Int) - 1),.bool false] 72)).heap.size:=Nat.le_trans O3.out.size b1.size
      have HSU:=zH hsU
      have KR:=zH (room2 HN9.out)
      clear b1 hsU
      go_wp2_with (at_builtin;go_must (refine wp_append_at rfl _ _ 24 72 rfl Tryz.underlying24 _ 16 Tryz.info_key rfl (by omega) elK_ok.len RawK.one w.heap.size _ K rfl OWU.out _ 1 1 [⟨(tn:Int) - 1,false⟩] rfl rfl 0 _ (one_block elK_ok.len 72 #[.int .i64 ((tn:Int) - 1),.bool false] ⟨(tn:Int) - 1,false⟩ rfl _ rfl) ?kr ?ka ?kb ?_))
      case kr=>exact KR.out.1
      case ka=>exact KR.out.2
      case kb=>exact HSU.out
      intro v2 M ON bN oN hat
      obtain⟨q2,c2,hv2,-⟩:=OwnF.arr elK_ok.len ON
      obtain⟨n2,hn2⟩:∃ m,m=(K++[(⟨(tn:Int) - 1,false⟩:RawK)]).length:=⟨_,rfl⟩
      rw[← hn2] at hv2
      subst hv2
      clear hn2
      have GR:=zH (LsO.grown elK_ok (W:=W) (U:=Y3.alloc (.cells #[.int .i64 ((tn:Int) - 1),.bool false] 72)) (x:=⟨(tn:Int) - 1,false⟩) (L:=L) HKL.out (fun j r x hr hx=>elK_rel (HREL0.out j r x hr hx)) (fun k e=>(OWNW.out.lt k e).2) ⟨rfl,rfl⟩ OW.out.size (Nat.le_trans HWY3.out HBU.out.size) ON oN (by rcases hat with h | h;exact .inl h;exact .inr (by simpa using h)))
      have HRM:=(HR3.out.below HBU.out).outs oN (fun j e=>by have:=(OWU.out.lt j e).1;omega)
      have HOF:=zH (Out.down (((O3.out.up (N:=w.heap.size)).trans (Out.of HBU.out)).trans (oN.mono fun j _ hj=>.inr (OWU.out.lt j hj).1)))
      clear ON bN oN hat t1 tl
      rcases HRM.sign (s:=[44]) (by decide) with ⟨t,r5,rfl,h1,hc⟩ |⟨h1,hc⟩
      ·have WS:=zH (rsign_yes p z k T t r5 [44] M HRM hc)
       have HQ3:=zH (show hdF z (bKey z) (L++[⟨(tn:Int) - 1,false⟩]) r5=res by rw[← HQ2.out,listW_eq (bKey_shr z).keep,if_pos h1];rfl)
       have HLT:=zH (show r5.length+1<rleft W p from by have h1:=HLW.out;have h2:=HLR.out;simp only[List.length_cons] at h2;omega)
       clear HRM hc h1
       go_wp2_with fail
       refine WS.out.mono ?_
       rintro e4 M2 ⟨rfl,hR3,hO3⟩
       have hm:=hR3.left
       have HRR:=zH hR3
       have HOO:=zH (HOF.out.trans hO3)
       have GR2:=zH (GR.out.outs elK_ok hO3 (fun j (hj:j=p) hl=>by omega))
       have HLL:=zH (show (L++[(⟨(tn:Int) - 1,false⟩:Ky)]).length≤8 by have h1:=HKL.out;have h2:=HN7.out;simp;omega)
       have HMM:=zH (show rleft M2 p<rleft W p by rw[hm];exact HLT.out)
       clear hR3 hO3 WS hm
       go_wp2_with fail
       go_roundw
       case rel =>
        obtain⟨K3,k1,k2,k3⟩:=GR2.out.own
        exact⟨K3,k1,by rw[k2];exact HLL.out,HOO.out,.inl ⟨L++[⟨(tn:Int) - 1,false⟩],r5,HRR.out,k2,k3,HQ3.out⟩⟩
       case measure=>exact HMM.out
      ·have WS:=zH (rsign_no p z k T _ [44] M HRM hc)
       have HQ3:=zH (show res=.ok (L++[⟨(tn:Int) - 1,false⟩]) r3 by rw[← HQ2.out,listW_eq (bKey_shr z).keep,if_neg (by rw[h1];decide)])
       have HRM:=zH HRM
       clear hc h1
       go_wp2_with fail
       refine WS.out.mono ?_
       rintro e4 M2 ⟨rfl,hb⟩
       have HRR:=zH (HRM.out.below hb)
       have HOO:=zH (HOF.out.trans (Out.of hb))
       have GR2:=zH (GR.out.outs elK_ok (Out.of (S:=fun _=>False) hb) (fun j h _=>h.elim))
       clear hb WS
       go_wp2_with fail
       obtain⟨q9,c9,e9,l9,-,m9⟩:=GR2.out.read elK_ok
       exact bodyPost_ret (v:=.slice q2 n2 c2) (by simp[results,Tryz.results17,go_sem]) rfl (RAns.mkOk HQ3.out HOO.out ⟨_,_,_,rfl⟩ ⟨q9,c9,e9,l9,m9⟩ HRR.out)
    ·have i3:((kd:Int) != 3)=true:=by rw[bne_iff_ne];omega
     have HRES:=zH (show res=.err 7 (hAt z l) by
      rw[← HQ.out]
      cases l with
      | nil=>rfl
      | cons t r =>
       have hk:¬ t.kd=3:=by intro e;apply h3;have h:=HT.out;simp only[hd] at h;rw[← e,← h]
       rw[bKey,if_neg hk]
       rfl)
     clear ht hn h8 h3 HQ HT
     go_wp2_with fail
     refine CH.out.mono ?_
     rintro e0 V ⟨rfl,hb⟩
     obtain⟨Y,hY⟩:∃ V0,V0=V.alloc (.cells #[.int .i64 (kd:Int),.int .i64 (tn:Int),.int .i64 (ta:Int),.string (bsB ts)] 82):=⟨_,rfl⟩
     have bY:Below V.heap.size V Y:=by rw[hY];exact ext_alloc (ext_refl _) _
     have kY:BkA Y V.heap.size [.int .i64 (kd:Int),.int .i64 (tn:Int),.int .i64 (ta:Int),.string (bsB ts)]:=by rw[hY];exact BkA.new V [.int .i64 (kd:Int),.int .i64 (tn:Int),.int .i64 (ta:Int),.string (bsB ts)] 82
     have hYW:=hb.trans (bY.mono hb.size)
     have OWY:=zH (OWNW.out.later hYW)
     have OY:=zH (OW.out.trans (Out.of hYW))
     have TY:=zH kY
     have HBY:=zH hYW
     have HY:=zH hY
     have hsY:=hYW.size
     have hpk:p<V.heap.size:=Nat.lt_of_lt_of_le (Nat.lt_of_lt_of_le lp hwW) hb.size
     clear hb hY bY kY hYW
     go_upto_region 3 with fail
     rw[← HY.out]
     clear HY
     obtain⟨gk,hgk⟩:∃ g,g=V.heap.size:=⟨_,rfl⟩
     rw[← hgk] at TY hpk ⊢
     clear hgk
     have t0:=TY.out.c 0 _ rfl
     have tl:=TY.out.lt
     obtain⟨dd,-,lpV,c3,-⟩:=(HR.out.below HBY.out).deep
     have NO:=zH (rno_ok 7 (by decide) (HR.out.below HBY.out))
     go_wp2_with fail
     refine NO.out.mono ?_
     rintro e1 V0 ⟨rfl,hE,hO0⟩
     have RR:=zH hE
     have OO:=zH (OY.out.trans hO0)
     clear hE hO0 NO e8
     go_wp2_with fail
     exact bodyPost_ret (v:=.slice q n c) (by simp[results,Tryz.results17,go_sem]) rfl (RAns.mkErr HRES.out OO.out ⟨_,_,_,rfl⟩ RR.out)
  ·have HRES:=zH hres
   have HE:=zH hE
   obtain⟨j0,d0,hs0⟩:=hE.st
   have CH:=zH (rhere_any p z T j0 er a d0 W hs0)
   obtain⟨⟨kd,tn,ta,ts⟩,ht⟩:∃ t,t=hd z (T.drop j0):=⟨_,rfl⟩
   rw[← ht] at CH
   clear hres hS ht hs0 hE
   by_cases h8:n=8
   ·have e8:((n:Int) == 8)=true:=by rw[beq_iff_eq];omega
    clear hn h8
    go_wp2_with fail
    refine CH.out.mono ?_
    rintro e0 V ⟨rfl,hb⟩
    obtain⟨Y,hY⟩:∃ V0,V0=V.alloc (.cells #[.int .i64 (kd:Int),.int .i64 (tn:Int),.int .i64 (ta:Int),.string (bsB ts)] 82):=⟨_,rfl⟩
    have bY:Below V.heap.size V Y:=by rw[hY];exact ext_alloc (ext_refl _) _
    have kY:BkA Y V.heap.size [.int .i64 (kd:Int),.int .i64 (tn:Int),.int .i64 (ta:Int),.string (bsB ts)]:=by rw[hY];exact BkA.new V [.int .i64 (kd:Int),.int .i64 (tn:Int),.int .i64 (ta:Int),.string (bsB ts)] 82
    have hYW:=hb.trans (bY.mono hb.size)
    have OWY:=zH (OWNW.out.later hYW)
    have OY:=zH (OW.out.trans (Out.of hYW))
    have TY:=zH kY
    have HBY:=zH hYW
    have HY:=zH hY
    have hsY:=hYW.size
    have hpk:p<V.heap.size:=Nat.lt_of_lt_of_le (Nat.lt_of_lt_of_le lp hwW) hb.size
    clear hb hY bY kY hYW
    go_upto_region 3 with fail
    rw[← HY.out]
    clear HY
    obtain⟨gk,hgk⟩:∃ g,g=V.heap.size:=⟨_,rfl⟩
    rw[← hgk] at TY hpk ⊢
    clear hgk
    have NO:=zH (rno_more p z T er a 5 _ (HE.out.below HBY.out))
    go_wp2_with fail
    refine NO.out.mono ?_
    rintro e1 V0 ⟨rfl,hb0⟩
    have HE0:=zH ((HE.out.below HBY.out).below hb0)
    have O0:=zH (OY.out.trans (Out.of hb0))
    clear hb0 NO e8
    have N7:=zH (rno_more p z T er a 7 _ HE0.out)
    obtain⟨dd,-,-,lpV,c3,-⟩:=HE0.out.deep
    have hne:((er:Int) != 0)=true:=by rw[bne_iff_ne];have:=HE0.out.ne;omega
    go_wp2_with fail
    refine N7.out.mono ?_
    rintro e3 V3 ⟨rfl,hb3⟩
    have RR:=zH (HE0.out.below hb3)
    have OO:=zH (O0.out.trans (Out.of hb3))
    clear hb3 N7
    go_wp2_with fail
    exact bodyPost_ret (v:=.slice q n c) (by simp[results,Tryz.results17,go_sem]) rfl (RAns.mkErr HRES.out OO.out ⟨_,_,_,rfl⟩ RR.out)
   ·have e8:((n:Int) == 8)=false:=by rw[beq_eq_false_iff_ne];omega
    clear hn h8
    go_wp2_with fail
    refine CH.out.mono ?_
    rintro e0 V ⟨rfl,hb⟩
    obtain⟨Y,hY⟩:∃ V0,V0=V.alloc (.cells #[.int .i64 (kd:Int),.int .i64 (tn:Int),.int .i64 (ta:Int),.string (bsB ts)] 82):=⟨_,rfl⟩
    have bY:Below V.heap.size V Y:=by rw[hY];exact ext_alloc (ext_refl _) _
    have kY:BkA Y V.heap.size [.int .i64 (kd:Int),.int .i64 (tn:Int),.int .i64 (ta:Int),.string (bsB ts)]:=by rw[hY];exact BkA.new V [.int .i64 (kd:Int),.int .i64 (tn:Int),.int .i64 (ta:Int),.string (bsB ts)] 82
    have hYW:=hb.trans (bY.mono hb.size)
    have OWY:=zH (OWNW.out.later hYW)
    have OY:=zH (OW.out.trans (Out.of hYW))
    have TY:=zH kY
    have HBY:=zH hYW
    have HY:=zH hY
    have hsY:=hYW.size
    have hpk:p<V.heap.size:=Nat.lt_of_lt_of_le (Nat.lt_of_lt_of_le lp hwW) hb.size
    clear hb hY bY kY hYW
    go_upto_region 3 with fail
    rw[← HY.out]
    clear HY
    obtain⟨gk,hgk⟩:∃ g,g=V.heap.size:=⟨_,rfl⟩
    rw[← hgk] at TY hpk ⊢
    clear hgk
    have HE0:=zH (HE.out.below HBY.out)
    have O0:=OY
    have N7:=zH (rno_more p z T er a 7 _ HE0.out)
    obtain⟨dd,-,-,lpV,c3,-⟩:=HE0.out.deep
    have hne:((er:Int) != 0)=true:=by rw[bne_iff_ne];have:=HE0.out.ne;omega
    go_wp2_with fail
    refine N7.out.mono ?_
    rintro e3 V3 ⟨rfl,hb3⟩
    have RR:=zH (HE0.out.below hb3)
    have OO:=zH (O0.out.trans (Out.of hb3))
    clear hb3 N7
    go_wp2_with fail
    exact bodyPost_ret (v:=.slice q n c) (by simp[results,Tryz.results17,go_sem]) rfl (RAns.mkErr HRES.out OO.out ⟨_,_,_,rfl⟩ RR.out)
end Go.Proofs.YtapbglhjamddbaaGreatDoor
