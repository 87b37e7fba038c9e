/- A part of the proof. -/
import Derived.Test.YtapbglhjamddbaaGreatDoorRpQ
import Derived.Deep.CutBlock
import Derived.Test.YtapbglhjamddbaaGreatDoorHd
set_option linter.unusedSimpArgs false
set_option linter.unusedVariables false
namespace Go.Proofs.YtapbglhjamddbaaGreatDoor
open Go.RowKit Go.Deep
set_option maxRecDepth 100000
theorem roomF {K:List RawF} (h:K.length≤8):K.length+1≤maxLen∧(K.length+1)*64≤140737488355328:=by
 unfold maxLen
 omega
theorem ex_inj {r r':RawE} (h:((Value.agg #[.int .i64 r.op,.int .i64 r.v.k,.int .i64 r.v.n,.string r.v.s,.int .i64 r.rel,.int .i64 r.col,.int .i64 r.n,.string r.s,.slice r.q r.len r.c]):Value)=(Value.agg #[.int .i64 r'.op,.int .i64 r'.v.k,.int .i64 r'.v.n,.string r'.v.s,.int .i64 r'.rel,.int .i64 r'.col,.int .i64 r'.n,.string r'.s,.slice r'.q r'.len r'.c])):r.cells=r'.cells:=by
 simp only[Value.agg.injEq,Array.mk.injEq,List.cons.injEq,Value.string.injEq,Value.int.injEq,Value.slice.injEq,and_true,true_and] at h
 obtain⟨h1,h2,h3,h4,h5,h6,h7,h8,h9,h10,h11⟩:=h
 simp only[RawE.cells,exCells,h1,h2,h3,h4,h5,h6,h7,h8,h9,h10,h11]
theorem roomI {K:List RawI} (h:K.length≤8):K.length+1≤maxLen∧(K.length+1)*112≤140737488355328:=by
 unfold maxLen
 omega
def ShL (v:Value):Prop:=∃ r:RawS,v=.agg #[.bool r.d,.slice r.i.q r.i.n r.i.c,.slice r.f.q r.f.n r.f.c,.slice r.w.q r.w.n r.w.c,.slice r.g.q r.g.n r.g.c]
set_option maxHeartbeats 40000000 in
theorem rselects_any {p z k:Nat} {T:List Tok} {orr:Rd Ex} (C:RdE 33 p z T k orr) (hK:Shr orr) (res:PR Sel) (w:World) (h:St0 w p z T k (fun l=>need z kwSelect l (bSel2 z orr)) res):Calls Tryz.prog 14 #[.pointer (some ⟨p,0,none⟩)] w (RAns SlV ShL p z T k res w):=by
 have lp:=h.lt
 have HKI:=zH (bItem_shr z hK).keep
 have HC:=zH C
 obtain⟨A,hA⟩:∃ V0,V0=w.alloc (.cells #[.bool false,.slice none 0 0,.slice none 0 0,.slice none 0 0,.slice none 0 0] 38):=⟨_,rfl⟩
 have b0:Below w.heap.size w A:=by rw[hA];exact ext_alloc (ext_refl _) _
 have N0:BkA A w.heap.size zSel5:=by rw[hA];exact BkA.new w zSel5 38
 have z0:A.heap.size=w.heap.size+1:=by rw[hA];simp
 obtain⟨A1,hA1⟩:∃ V0,V0=A.alloc (.cells #[.bool false,.slice none 0 0,.slice none 0 0,.slice none 0 0,.slice none 0 0] 38):=⟨_,rfl⟩
 have b1:Below A.heap.size A A1:=by rw[hA1];exact ext_alloc (ext_refl _) _
 have N1:BkA A1 A.heap.size zSel5:=by rw[hA1];exact BkA.new A zSel5 38
 rw[z0] at N1
 have SB0:=zH (show SB w A1 p (w.heap.size+1) w.heap.size false (.slice none 0 0) (.slice none 0 0) (.slice none 0 0) (.slice none 0 0) from ⟨N1,N0.on b1,Out.of (b0.trans (b1.mono b0.size))⟩)
 have C0:=zH (((h.below b0).below b1).mustW (by decide))
 have HA:=zH hA
 have HA1:=zH hA1
 clear h b0 N0 z0 b1 N1 hA hA1 C
 go_enter Tryz.func14,Tryz.ntmps14
 go_upto_region 2 with fail
 rw[← HA.out,← HA1.out]
 clear HA HA1
 obtain⟨gr,hgr⟩:∃ g,g=w.heap.size:=⟨_,rfl⟩
 have HGR:=zH hgr
 have hpr:p<gr:=by omega
 rw[← hgr] at SB0 ⊢
 obtain⟨gs,hgs⟩:∃ g,g=gr+1:=⟨_,rfl⟩
 have HGW:=zH (show w.heap.size≤gs by omega)
 have hrs:gr<gs:=by omega
 rw[← hgs] at SB0 ⊢
 clear hgr hgs
 go_wp2_with fail
 refine C0.out.mono ?_
 rintro e V1 ⟨rfl,hO1,hS1⟩
 obtain⟨d,hD⟩:=hS1.dist
 have SB1:=zH (SB0.out.read hO1 (by omega) (by omega))
 have HD:=zH hD
 clear hO1 hS1 hD C0 SB0
 go_wp2_with fail
 refine HD.out.mono ?_
 rintro e1 V2 ⟨rfl,hO2,hS2⟩
 have SB2:=zH (SB1.out.read hO2 (by omega) (by omega))
 have q0:=SB2.out.box.c 0 _ rfl
 have ql:=SB2.out.box.lt
 have qf:=SB2.out.box.fz
 obtain⟨V3,hV3⟩:∃ V0,V0=V2.setCell ⟨gs,0,none⟩ (.bool d):=⟨_,rfl⟩
 have SBS:=zH (show SB w V3 p gs gr d (.slice none 0 0) (.slice none 0 0) (.slice none 0 0) (.slice none 0 0) by
  obtain⟨s1,s2,s3⟩:=SB2.out.set (by omega) HGW.out 0 (by omega) (.bool d)
  rw[← hV3] at s1 s2 s3
  exact⟨s1,s2,s3⟩)
 have STS:=zH (hS2.outs (w':=V3) (S:=fun j=>j=gs) (by rw[hV3];exact out_p _ _ _ _) (fun j (hj:j=gs)=>by omega))
 have HV3:=zH hV3
 clear hO2 hS2 hV3 HD SB1
 go_upto_block 0 with fail
 rw[← HV3.out]
 clear HV3 q0 ql qf SB2
 go_cut [5] (fun _ wc=>∃ vi,ShS vi∧Hid (SB w wc p gs gr d vi (.slice none 0 0) (.slice none 0 0) (.slice none 0 0))∧Hid (AltP wc p z T k (fun L=>Part elI wc gs wc.heap.size L vi) (selK z orr d) res))
 case first =>
  go_wp2_with fail
  go_loopw [5] (fun _ wr=>∃ (vi:Value) (K:List RawI),OwnF wr (gs+1) 46 10 RawI.cells vi K∧K.length≤8∧Hid (SB w wr p gs gr d vi (.slice none 0 0) (.slice none 0 0) (.slice none 0 0))∧Hid ((∃ L l,RO wr p z T l k∧K.length=L.length∧(∀ (j:Nat) (r:RawI) (x:It),K[j]?=some r→L[j]?=some x→elI.rel wr (fun g=>gs+1≤g∧vi.ownBlock≠some g) x r)∧(hdF z (bItem z orr) L l).bind (selK z orr d)=res)∨∃ er a,res=.err er a∧RE wr p z T er a)) (fun _ wr=>rleft wr p)
  case atStart =>
   refine⟨.slice none 0 0,[],OwnF.nil _ _ _,Nat.zero_le _,SBS.out,?_⟩
   rcases STS.out with ⟨l,h1,h2⟩ |⟨er,a,h1,h2⟩
   ·exact .inl ⟨[],l,h1,rfl,fun j r x hr=>by simp at hr,h2⟩
   ·exact .inr ⟨er,a,h1,h2⟩
  case round =>
   obtain⟨vi,K,hO,hK8,hSB,hS⟩:=hrel
   obtain⟨W,hW⟩:∃ W,W=wr:=⟨_,rfl⟩
   rw[← hW] at hO hSB hS ⊢
   obtain⟨q,c,rfl,-⟩:=OwnF.arr elI_ok.len hO
   have HN9:=zH hK8
   have OWNW:=zH hO
   have SBW:=zH hSB.out
   clear hW hO hSB SBS STS
   obtain⟨n,hn⟩:∃ n,n=K.length:=⟨_,rfl⟩
   have HNN:=zH hn
   rw[← hn] at hK8 OWNW hS SBW
   have c1:=SBW.out.box.c 1 _ rfl
   have cl:=SBW.out.box.lt
   rcases hS.out with ⟨L,l,hR,hKL,hrel,hq⟩ |⟨er,a,hres,hE⟩
   ·by_cases h8:n=8
    ·have e8:((n:Int) == 8)=true:=by rw[beq_iff_eq];omega
     have NO:=zH (rno_ok 5 (by decide) hR)
     have HRES:=zH (show res=.err 5 (hAt z l) by rw[← hq];unfold hdF;rw[if_pos (by omega)];rfl)
     clear hR hKL hrel hq hS hn h8
     go_wp2_with fail
     refine NO.out.mono ?_
     rintro e1 V0 ⟨rfl,hE,hO0⟩
     obtain⟨er,her⟩:∃ e:Nat,e=5:=⟨_,rfl⟩
     obtain⟨a,ha⟩:∃ b,b=hAt z l:=⟨_,rfl⟩
     rw[← her,← ha] at HRES hE
     have OWN0:=zH (OWNW.out.kept hO0 (fun j (hj:j=p) e=>by have:=(OWNW.out.lt j e).1;omega))
     have SBV0:=zH (SBW.out.read hO0 (by omega) (by omega))
     have CN:=zH (ritem_any HC.out (.err er a) V0 (.inr ⟨er,a,rfl,hE⟩))
     clear her ha hE hO0 NO e8 c1 cl
     go_wp2_with fail
     refine CN.out.mono ?_
     intro e2 Y hA2
     obtain⟨hO2,v,rfl,⟨⟨ag,⟨hop,⟨hvk,hvn,hvs⟩,hrel,hcol,hn,hs,hq,hlen,hc⟩⟩,rfl⟩,hE2⟩:=hA2.err rfl
     have OWY:=zH (OWN0.out.kept hO2 (fun j (hj:j=p) e=>by have:=(OWN0.out.lt j e).1;omega))
     have SBY:=zH (SBV0.out.read hO2 (by omega) (by omega))
     have HEY:=zH hE2
     clear hA2 hO2 hE2 CN
     obtain⟨Y2,hY2⟩:∃ V0,V0=Y.alloc (.cells #[.int .i64 ag,.int .i64 hop,.int .i64 hvk,.int .i64 hvn,.string hvs,.int .i64 hrel,.int .i64 hcol,.int .i64 hn,.string hs,.slice hq hlen hc] 46):=⟨_,rfl⟩
     have bY2:Below Y.heap.size Y Y2:=by rw[hY2];exact ext_alloc (ext_refl _) _
     have kY2:BkA Y2 Y.heap.size (RawI.cells ⟨ag,⟨hop,⟨hvk,hvn,hvs⟩,hrel,hcol,hn,hs,hq,hlen,hc⟩⟩):=by rw[hY2];exact BkA.new Y (RawI.cells ⟨ag,⟨hop,⟨hvk,hvn,hvs⟩,hrel,hcol,hn,hs,hq,hlen,hc⟩⟩) 46
     have HY2:=zH hY2
     obtain⟨d0,d1,d2,d3,d4,d5,d6,d7,d8,d9⟩:=kY2.c10_ rfl
     have kl:=kY2.lt
     have OW2:=zH (OWY.out.later bY2)
     have SB2:=zH (SBY.out.below bY2)
     have c1:=SB2.out.box.c 1 _ rfl
     have cl:=SB2.out.box.lt
     have b1:Below Y2.heap.size Y2 (Y2.alloc (.cells #[.int .i64 ag,.int .i64 hop,.int .i64 hvk,.int .i64 hvn,.string hvs,.int .i64 hrel,.int .i64 hcol,.int .i64 hn,.string hs,.slice hq hlen hc] 46)):=ext_alloc (ext_refl _) _
     have HBU:=zH (bY2.trans (b1.mono bY2.size))
     have OWU:=zH (OW2.out.later b1)
     have SBU:=zH (SB2.out.below b1)
     have hsU:gs+1≤(Y2.alloc (.cells #[.int .i64 ag,.int .i64 hop,.int .i64 hvk,.int .i64 hvn,.string hvs,.int .i64 hrel,.int .i64 hcol,.int .i64 hn,.string hs,.slice hq hlen hc] 46)).heap.size:=SBU.out.box.lt
     have KR:=zH (roomI HN9.out)
     have HSU:=zH hsU
     clear hY2 bY2 kY2 b1 hsU
     go_upto_region 7 with fail
     rw[← HY2.out]
     clear HY2
     go_wp2_with (at_builtin;go_must (refine wp_append_at rfl _ _ 34 46 rfl Tryz.underlying34 _ 112 Tryz.info_item rfl (by omega) elI_ok.len RawI.one (gs+1) _ K rfl OWU.out _ 1 1 [⟨ag,⟨hop,⟨hvk,hvn,hvs⟩,hrel,hcol,hn,hs,hq,hlen,hc⟩⟩] rfl rfl 0 _ (one_block elI_ok.len 46 #[.int .i64 ag,.int .i64 hop,.int .i64 hvk,.int .i64 hvn,.string hvs,.int .i64 hrel,.int .i64 hcol,.int .i64 hn,.string hs,.slice hq hlen hc] ⟨ag,⟨hop,⟨hvk,hvn,hvs⟩,hrel,hcol,hn,hs,hq,hlen,hc⟩⟩ rfl _ rfl) ?kr ?ka ?kb ?_))
     case kr=>exact KR.out.1
     case ka=>exact KR.out.2
     case kb=>exact HSU.out
     intro v2 M ON bN oN hat
     obtain⟨q2,c2,hv2,-⟩:=OwnF.arr elI_ok.len ON
     obtain⟨n2,hn2⟩:∃ m,m=(K++[(⟨ag,⟨hop,⟨hvk,hvn,hvs⟩,hrel,hcol,hn,hs,hq,hlen,hc⟩⟩:RawI)]).length:=⟨_,rfl⟩
     rw[← hn2] at hv2
     subst hv2
     have HN2:=zH hn2
     clear hn2
     have hlo:=fun j (e:(Value.slice q n c).ownBlock=some j)=>(OWU.out.lt j e).1
     have SBM:=zH (SBU.out.outs oN (fun e=>by have:=hlo _ e;omega) (fun e=>by have:=hlo _ e;omega) (fun j e=>.inr (by have:=hlo _ e;have:=HGW.out;omega)))
     have m1:=SBM.out.box.c 1 _ rfl
     have ml:=SBM.out.box.lt
     have mf:=SBM.out.box.fz
     obtain⟨M3,hM3⟩:∃ V0,V0=M.setCell ⟨gs,1,none⟩ (.slice q2 n2 c2):=⟨_,rfl⟩
     have o3:Out (fun j=>j=gs) M M3:=by rw[hM3];exact out_p _ _ _ _
     have SB3:=zH (show SB w M3 p gs gr d (.slice q2 n2 c2) (.slice none 0 0) (.slice none 0 0) (.slice none 0 0) by
      obtain⟨s1,s2,s3⟩:=SBM.out.set (by omega) HGW.out 1 (by omega) (.slice q2 n2 c2)
      rw[← hM3] at s1 s2 s3
      exact⟨s1,s2,s3⟩)
     have OW3:=zH (ON.kept o3 (fun j (hj:j=gs) e=>by have:=(ON.lt j e).1;omega))
     have HM3:=zH hM3
     clear hM3 hlo
     have HE3:=zH (((HEY.out.below HBU.out).outs oN (fun j e=>by have:=(OWU.out.lt j e).1;omega)).outs o3 (fun j (hj:j=gs)=>by omega))
     have WS:=zH (rsign_err p z T er a (bsB [44]) M3 HE3.out)
     clear ON bN oN hat o3 d0 d1 d2 d3 d4 d5 d6 d7 d8 d9 kl c1 cl
     go_upto_region 8 with fail
     rw[← HM3.out]
     clear HM3 m1 ml mf
     go_wp2_with fail
     refine WS.out.mono ?_
     rintro e4 M4 ⟨rfl,hb⟩
     have SB4:=zH (SB3.out.below hb)
     have HE4:=zH (HE3.out.below hb)
     clear hb WS
     go_wp2_with fail
     go_meet
     exact⟨.slice q2 n2 c2,⟨_,_,_,rfl⟩,SB4.out,.inr ⟨er,a,HRES.out,HE4.out⟩⟩
    ·have e8:((n:Int) == 8)=false:=by rw[beq_eq_false_iff_ne];omega
     have HLW:=zH hR.left
     have CN:=zH (ritem_any HC.out (bItem z orr l) W (.inl ⟨l,hR,rfl⟩))
     have HKL:=zH (HNN.out.symm.trans hKL)
     have HREL:=zH hrel
     have HN7:=zH (show K.length≤7 by have:=HNN.out;omega)
     have HQ:=zH (show ((bItem z orr l).bind (fun x r=>listW z (bItem z orr) (L++[x]) r)).bind (selK z orr d)=res by rw[← hq];unfold hdF;rw[if_neg (by omega)])
     have OWN0:=OWNW
     have SBV0:=SBW
     clear hR hKL hrel hq hS hn h8
     go_upto_region 6 with fail
     clear c1 cl e8
     go_wp2_with fail
     refine CN.out.mono ?_
     intro e2 Y hA2
     have HLF:=zH (RAns.left HKI.out hA2)
     cases hr:bItem z orr l with
     | err er a =>
      rw[hr] at hA2
      have HRES:=zH (show res=.err er a by rw[← HQ.out,hr];rfl)
      obtain⟨hO2,v,rfl,⟨⟨ag,⟨hop,⟨hvk,hvn,hvs⟩,hrel,hcol,hn,hs,hq,hlen,hc⟩⟩,rfl⟩,hE2⟩:=hA2.err rfl
      clear hr
      have OWY:=zH (OWN0.out.kept hO2 (fun j (hj:j=p) e=>by have:=(OWN0.out.lt j e).1;omega))
      have SBY:=zH (SBV0.out.read hO2 (by omega) (by omega))
      have HEY:=zH hE2
      clear hA2 hO2 hE2 CN
      obtain⟨Y2,hY2⟩:∃ V0,V0=Y.alloc (.cells #[.int .i64 ag,.int .i64 hop,.int .i64 hvk,.int .i64 hvn,.string hvs,.int .i64 hrel,.int .i64 hcol,.int .i64 hn,.string hs,.slice hq hlen hc] 46):=⟨_,rfl⟩
      have bY2:Below Y.heap.size Y Y2:=by rw[hY2];exact ext_alloc (ext_refl _) _
      have kY2:BkA Y2 Y.heap.size (RawI.cells ⟨ag,⟨hop,⟨hvk,hvn,hvs⟩,hrel,hcol,hn,hs,hq,hlen,hc⟩⟩):=by rw[hY2];exact BkA.new Y (RawI.cells ⟨ag,⟨hop,⟨hvk,hvn,hvs⟩,hrel,hcol,hn,hs,hq,hlen,hc⟩⟩) 46
      have HY2:=zH hY2
      obtain⟨d0,d1,d2,d3,d4,d5,d6,d7,d8,d9⟩:=kY2.c10_ rfl
      have kl:=kY2.lt
      have OW2:=zH (OWY.out.later bY2)
      have SB2:=zH (SBY.out.below bY2)
      have c1:=SB2.out.box.c 1 _ rfl
      have cl:=SB2.out.box.lt
      have b1:Below Y2.heap.size Y2 (Y2.alloc (.cells #[.int .i64 ag,.int .i64 hop,.int .i64 hvk,.int .i64 hvn,.string hvs,.int .i64 hrel,.int .i64 hcol,.int .i64 hn,.string hs,.slice hq hlen hc] 46)):=ext_alloc (ext_refl _) _
      have HBU:=zH (bY2.trans (b1.mono bY2.size))
      have OWU:=zH (OW2.out.later b1)
      have SBU:=zH (SB2.out.below b1)
      have hsU:gs+1≤(Y2.alloc (.cells #[.int .i64 ag,.int .i64 hop,.int .i64 hvk,.int .i64 hvn,.string hvs,.int .i64 hrel,.int .i64 hcol,.int .i64 hn,.string hs,.slice hq hlen hc] 46)).heap.size:=SBU.out.box.lt
      have KR:=zH (roomI HN9.out)
      have HSU:=zH hsU
      clear hY2 bY2 kY2 b1 hsU
      go_upto_region 7 with fail
      rw[← HY2.out]
      clear HY2
      go_wp2_with (at_builtin;go_must (refine wp_append_at rfl _ _ 34 46 rfl Tryz.underlying34 _ 112 Tryz.info_item rfl (by omega) elI_ok.len RawI.one (gs+1) _ K rfl OWU.out _ 1 1 [⟨ag,⟨hop,⟨hvk,hvn,hvs⟩,hrel,hcol,hn,hs,hq,hlen,hc⟩⟩] rfl rfl 0 _ (one_block elI_ok.len 46 #[.int .i64 ag,.int .i64 hop,.int .i64 hvk,.int .i64 hvn,.string hvs,.int .i64 hrel,.int .i64 hcol,.int .i64 hn,.string hs,.slice hq hlen hc] ⟨ag,⟨hop,⟨hvk,hvn,hvs⟩,hrel,hcol,hn,hs,hq,hlen,hc⟩⟩ rfl _ rfl) ?kr ?ka ?kb ?_))
      case kr=>exact KR.out.1
      case ka=>exact KR.out.2
      case kb=>exact HSU.out
      intro v2 M ON bN oN hat
      obtain⟨q2,c2,hv2,-⟩:=OwnF.arr elI_ok.len ON
      obtain⟨n2,hn2⟩:∃ m,m=(K++[(⟨ag,⟨hop,⟨hvk,hvn,hvs⟩,hrel,hcol,hn,hs,hq,hlen,hc⟩⟩:RawI)]).length:=⟨_,rfl⟩
      rw[← hn2] at hv2
      subst hv2
      have HN2:=zH hn2
      clear hn2
      have hlo:=fun j (e:(Value.slice q n c).ownBlock=some j)=>(OWU.out.lt j e).1
      have SBM:=zH (SBU.out.outs oN (fun e=>by have:=hlo _ e;omega) (fun e=>by have:=hlo _ e;omega) (fun j e=>.inr (by have:=hlo _ e;have:=HGW.out;omega)))
      have m1:=SBM.out.box.c 1 _ rfl
      have ml:=SBM.out.box.lt
      have mf:=SBM.out.box.fz
      obtain⟨M3,hM3⟩:∃ V0,V0=M.setCell ⟨gs,1,none⟩ (.slice q2 n2 c2):=⟨_,rfl⟩
      have o3:Out (fun j=>j=gs) M M3:=by rw[hM3];exact out_p _ _ _ _
      have SB3:=zH (show SB w M3 p gs gr d (.slice q2 n2 c2) (.slice none 0 0) (.slice none 0 0) (.slice none 0 0) by
       obtain⟨s1,s2,s3⟩:=SBM.out.set (by omega) HGW.out 1 (by omega) (.slice q2 n2 c2)
       rw[← hM3] at s1 s2 s3
       exact⟨s1,s2,s3⟩)
      have OW3:=zH (ON.kept o3 (fun j (hj:j=gs) e=>by have:=(ON.lt j e).1;omega))
      have HM3:=zH hM3
      clear hM3 hlo
      have HE3:=zH (((HEY.out.below HBU.out).outs oN (fun j e=>by have:=(OWU.out.lt j e).1;omega)).outs o3 (fun j (hj:j=gs)=>by omega))
      have WS:=zH (rsign_err p z T er a (bsB [44]) M3 HE3.out)
      clear ON bN oN hat o3 d0 d1 d2 d3 d4 d5 d6 d7 d8 d9 kl c1 cl
      go_upto_region 8 with fail
      rw[← HM3.out]
      clear HM3 m1 ml mf
      go_wp2_with fail
      refine WS.out.mono ?_
      rintro e4 M4 ⟨rfl,hb⟩
      have SB4:=zH (SB3.out.below hb)
      have HE4:=zH (HE3.out.below hb)
      clear hb WS
      go_wp2_with fail
      go_meet
      exact⟨.slice q2 n2 c2,⟨_,_,_,rfl⟩,SB4.out,.inr ⟨er,a,HRES.out,HE4.out⟩⟩
     | ok x r =>
      rw[hr] at hA2
      obtain⟨hO2,v,hv,-,⟨⟨⟨ag,⟨hop,⟨hvk,hvn,hvs⟩,hrel,hcol,hn,hs,hq,hlen,hc⟩⟩,rfl,hx⟩,hR2⟩⟩:=hA2.ok rfl
      obtain rfl:=hv
      have HQ2:=zH (show (listW z (bItem z orr) (L++[x]) r).bind (selK z orr d)=res by rw[← HQ.out,hr];rfl)
      have OWY:=zH (OWN0.out.kept hO2 (fun j (hj:j=p) e=>by have:=(OWN0.out.lt j e).1;omega))
      have SBY:=zH (SBV0.out.read hO2 (by omega) (by omega))
      have RELY:=zH (fun (j:Nat) (r:RawI) (x:It) hr hx=>elI_ok.on hO2.size (fun g hg hl=>hO2.block g hl (fun (e:g=p)=>by have:=hg.1;omega)) (fun _ h _=>h) x r (HREL.out j r x hr hx))
      have HRY:=zH hR2
      have HXY:=zH hx
      have hWY:=hO2.size
      clear hA2 hO2 hR2 hx CN hr
      obtain⟨Y2,hY2⟩:∃ V0,V0=Y.alloc (.cells #[.int .i64 ag,.int .i64 hop,.int .i64 hvk,.int .i64 hvn,.string hvs,.int .i64 hrel,.int .i64 hcol,.int .i64 hn,.string hs,.slice hq hlen hc] 46):=⟨_,rfl⟩
      have bY2:Below Y.heap.size Y Y2:=by rw[hY2];exact ext_alloc (ext_refl _) _
      have kY2:BkA Y2 Y.heap.size (RawI.cells ⟨ag,⟨hop,⟨hvk,hvn,hvs⟩,hrel,hcol,hn,hs,hq,hlen,hc⟩⟩):=by rw[hY2];exact BkA.new Y (RawI.cells ⟨ag,⟨hop,⟨hvk,hvn,hvs⟩,hrel,hcol,hn,hs,hq,hlen,hc⟩⟩) 46
      have HY2:=zH hY2
      obtain⟨d0,d1,d2,d3,d4,d5,d6,d7,d8,d9⟩:=kY2.c10_ rfl
      have kl:=kY2.lt
      have OW2:=zH (OWY.out.later bY2)
      have SB2:=zH (SBY.out.below bY2)
      have c1:=SB2.out.box.c 1 _ rfl
      have cl:=SB2.out.box.lt
      have b1:Below Y2.heap.size Y2 (Y2.alloc (.cells #[.int .i64 ag,.int .i64 hop,.int .i64 hvk,.int .i64 hvn,.string hvs,.int .i64 hrel,.int .i64 hcol,.int .i64 hn,.string hs,.slice hq hlen hc] 46)):=ext_alloc (ext_refl _) _
      have HBU:=zH (bY2.trans (b1.mono bY2.size))
      have OWU:=zH (OW2.out.later b1)
      have SBU:=zH (SB2.out.below b1)
      have hsU:gs+1≤(Y2.alloc (.cells #[.int .i64 ag,.int .i64 hop,.int .i64 hvk,.int .i64 hvn,.string hvs,.int .i64 hrel,.int .i64 hcol,.int .i64 hn,.string hs,.slice hq hlen hc] 46)).heap.size:=SBU.out.box.lt
      have KR:=zH (roomI HN9.out)
      have HSU:=zH hsU
      clear hY2 bY2 kY2 b1 hsU
      go_upto_region 7 with fail
      rw[← HY2.out]
      clear HY2
      go_wp2_with (at_builtin;go_must (refine wp_append_at rfl _ _ 34 46 rfl Tryz.underlying34 _ 112 Tryz.info_item rfl (by omega) elI_ok.len RawI.one (gs+1) _ K rfl OWU.out _ 1 1 [⟨ag,⟨hop,⟨hvk,hvn,hvs⟩,hrel,hcol,hn,hs,hq,hlen,hc⟩⟩] rfl rfl 0 _ (one_block elI_ok.len 46 #[.int .i64 ag,.int .i64 hop,.int .i64 hvk,.int .i64 hvn,.string hvs,.int .i64 hrel,.int .i64 hcol,.int .i64 hn,.string hs,.slice hq hlen hc] ⟨ag,⟨hop,⟨hvk,hvn,hvs⟩,hrel,hcol,hn,hs,hq,hlen,hc⟩⟩ rfl _ rfl) ?kr ?ka ?kb ?_))
      case kr=>exact KR.out.1
      case ka=>exact KR.out.2
      case kb=>exact HSU.out
      intro v2 M ON bN oN hat
      obtain⟨q2,c2,hv2,-⟩:=OwnF.arr elI_ok.len ON
      obtain⟨n2,hn2⟩:∃ m,m=(K++[(⟨ag,⟨hop,⟨hvk,hvn,hvs⟩,hrel,hcol,hn,hs,hq,hlen,hc⟩⟩:RawI)]).length:=⟨_,rfl⟩
      rw[← hn2] at hv2
      subst hv2
      have HN2:=zH hn2
      clear hn2
      have hlo:=fun j (e:(Value.slice q n c).ownBlock=some j)=>(OWU.out.lt j e).1
      have SBM:=zH (SBU.out.outs oN (fun e=>by have:=hlo _ e;omega) (fun e=>by have:=hlo _ e;omega) (fun j e=>.inr (by have:=hlo _ e;have:=HGW.out;omega)))
      have m1:=SBM.out.box.c 1 _ rfl
      have ml:=SBM.out.box.lt
      have mf:=SBM.out.box.fz
      obtain⟨M3,hM3⟩:∃ V0,V0=M.setCell ⟨gs,1,none⟩ (.slice q2 n2 c2):=⟨_,rfl⟩
      have o3:Out (fun j=>j=gs) M M3:=by rw[hM3];exact out_p _ _ _ _
      have SB3:=zH (show SB w M3 p gs gr d (.slice q2 n2 c2) (.slice none 0 0) (.slice none 0 0) (.slice none 0 0) by
       obtain⟨s1,s2,s3⟩:=SBM.out.set (by omega) HGW.out 1 (by omega) (.slice q2 n2 c2)
       rw[← hM3] at s1 s2 s3
       exact⟨s1,s2,s3⟩)
      have OW3:=zH (ON.kept o3 (fun j (hj:j=gs) e=>by have:=(ON.lt j e).1;omega))
      have HM3:=zH hM3
      clear hM3 hlo
      have RELU:=fun (j:Nat) (r:RawI) (x:It) hr hx=>elI_ok.on HBU.out.size (fun g hg hl=>HBU.out.block g hl) (fun _ h _=>h) x r (RELY.out j r x hr hx)
      have hwW:gs+1≤W.heap.size:=SBV0.out.box.lt
      have GR:=zH (LsO.grown elI_ok (W:=W) (x:=x) (L:=L) HKL.out RELU (fun k e=>(OWN0.out.lt k e).2) (elI_ok.on (Q:=fun g=>W.heap.size≤g) HBU.out.size (fun g hg hl=>HBU.out.block g hl) (fun g hg _=>hg) x ⟨ag,⟨hop,⟨hvk,hvn,hvs⟩,hrel,hcol,hn,hs,hq,hlen,hc⟩⟩ HXY.out) hwW (Nat.le_trans hWY HBU.out.size) ON oN (by rcases hat with h | h;exact .inl h;exact .inr (by simpa using h)))
      have HRM:=(HRY.out.below HBU.out).outs oN (fun j e=>by have:=(OWU.out.lt j e).1;omega)
      have hlY:rleft M p=rleft Y p:=by rw[HRM.left,HRY.out.left]
      have HLM:=zH (show rleft M p≤rleft W p by rw[hlY,HLW.out];exact HLF.out)
      have HR3:=HRM.outs o3 (fun j (hj:j=gs)=>by omega)
      have hl3:rleft M3 p=rleft M p:=by rw[HR3.left,HRM.left]
      have GR3:=zH (show LsO elI M3 (gs+1) (.slice q2 n2 c2) (L++[x]) from GR.out.outs elI_ok o3 (fun j (hj:j=gs) hl=>by omega))
      clear ON bN oN hat RELU hwW hlY HRM o3 d0 d1 d2 d3 d4 d5 d6 d7 d8 d9 kl c1 cl
      rcases HR3.sign (s:=[44]) (by decide) with ⟨t,r2,rfl,h1,hc⟩ |⟨h1,hc⟩
      ·have WS:=zH (rsign_yes p z k T t r2 [44] M3 HR3 hc)
       have HQ3:=zH (show (hdF z (bItem z orr) (L++[x]) r2).bind (selK z orr d)=res by rw[← HQ2.out,listW_eq HKI.out,if_pos h1];rfl)
       have HLT:=zH (show r2.length+1<rleft W p from by have h:=HLM.out;rw[← hl3,HR3.left] at h;simp only[List.length_cons] at h;omega)
       clear HR3 hc h1 hl3
       go_upto_region 8 with fail
       rw[← HM3.out]
       clear HM3 m1 ml mf
       go_wp2_with fail
       refine WS.out.mono ?_
       rintro e4 M4 ⟨rfl,hR4,hO4⟩
       have hm:=hR4.left
       have HRR:=zH hR4
       have SB4:=zH (SB3.out.read hO4 (by omega) (by omega))
       have GR4:=zH (GR3.out.outs elI_ok hO4 (fun j (hj:j=p) hl=>by omega))
       have HLL:=zH (show (L++[x]).length≤8 by have h1:=HKL.out;have h2:=HN7.out;simp;omega)
       have HMM:=zH (show rleft M4 p<rleft W p by rw[hm];exact HLT.out)
       clear hR4 hO4 WS hm
       go_wp2_with fail
       go_roundw
       case rel =>
        obtain⟨K3,k1,k2,k3⟩:=GR4.out.own
        exact⟨_,K3,k1,by rw[k2];exact HLL.out,SB4.out,.inl ⟨L++[x],r2,HRR.out,k2,k3,HQ3.out⟩⟩
       case measure=>exact HMM.out
      ·have WS:=zH (rsign_no p z k T r [44] M3 HR3 hc)
       have HQ3:=zH (show selK z orr d (L++[x]) r=res by rw[← HQ2.out,listW_eq HKI.out,if_neg (by rw[h1];decide)];rfl)
       have HRM:=zH HR3
       clear hc h1 HR3 hl3
       go_upto_region 8 with fail
       rw[← HM3.out]
       clear HM3 m1 ml mf
       go_wp2_with fail
       refine WS.out.mono ?_
       rintro e4 M4 ⟨rfl,hb⟩
       have HRR:=zH (HRM.out.below hb)
       have SB4:=zH (SB3.out.below hb)
       have PT:=zH (Part.of elI_ok (GR3.out.outs elI_ok (Out.of (S:=fun _=>False) hb) (fun j h _=>h.elim)))
       clear hb WS
       go_wp2_with fail
       go_meet
       exact⟨.slice q2 n2 c2,⟨_,_,_,rfl⟩,SB4.out,.inl ⟨L++[x],r,HRR.out,PT.out,HQ3.out⟩⟩
   ·have HRES:=zH hres
    clear hres hS
    by_cases h8:n=8
    ·have e8:((n:Int) == 8)=true:=by rw[beq_iff_eq];omega
     have NO:=zH (rno_more p z T er a 5 W hE)
     have HE:=zH hE
     clear hE hn h8
     go_wp2_with fail
     refine NO.out.mono ?_
     rintro e1 V0 ⟨rfl,hb⟩
     have OWN0:=zH (OWNW.out.later hb)
     have SBV0:=zH (SBW.out.below hb)
     have CN:=zH (ritem_any HC.out (.err er a) V0 (.inr ⟨er,a,rfl,HE.out.below hb⟩))
     clear hb NO e8 HE c1 cl
     go_wp2_with fail
     refine CN.out.mono ?_
     intro e2 Y hA2
     obtain⟨hO2,v,rfl,⟨⟨ag,⟨hop,⟨hvk,hvn,hvs⟩,hrel,hcol,hn,hs,hq,hlen,hc⟩⟩,rfl⟩,hE2⟩:=hA2.err rfl
     have OWY:=zH (OWN0.out.kept hO2 (fun j (hj:j=p) e=>by have:=(OWN0.out.lt j e).1;omega))
     have SBY:=zH (SBV0.out.read hO2 (by omega) (by omega))
     have HEY:=zH hE2
     clear hA2 hO2 hE2 CN
     obtain⟨Y2,hY2⟩:∃ V0,V0=Y.alloc (.cells #[.int .i64 ag,.int .i64 hop,.int .i64 hvk,.int .i64 hvn,.string hvs,.int .i64 hrel,.int .i64 hcol,.int .i64 hn,.string hs,.slice hq hlen hc] 46):=⟨_,rfl⟩
     have bY2:Below Y.heap.size Y Y2:=by rw[hY2];exact ext_alloc (ext_refl _) _
     have kY2:BkA Y2 Y.heap.size (RawI.cells ⟨ag,⟨hop,⟨hvk,hvn,hvs⟩,hrel,hcol,hn,hs,hq,hlen,hc⟩⟩):=by rw[hY2];exact BkA.new Y (RawI.cells ⟨ag,⟨hop,⟨hvk,hvn,hvs⟩,hrel,hcol,hn,hs,hq,hlen,hc⟩⟩) 46
     have HY2:=zH hY2
     obtain⟨d0,d1,d2,d3,d4,d5,d6,d7,d8,d9⟩:=kY2.c10_ rfl
     have kl:=kY2.lt
     have OW2:=zH (OWY.out.later bY2)
     have SB2:=zH (SBY.out.below bY2)
     have c1:=SB2.out.box.c 1 _ rfl
     have cl:=SB2.out.box.lt
     have b1:Below Y2.heap.size Y2 (Y2.alloc (.cells #[.int .i64 ag,.int .i64 hop,.int .i64 hvk,.int .i64 hvn,.string hvs,.int .i64 hrel,.int .i64 hcol,.int .i64 hn,.string hs,.slice hq hlen hc] 46)):=ext_alloc (ext_refl _) _
     have HBU:=zH (bY2.trans (b1.mono bY2.size))
     have OWU:=zH (OW2.out.later b1)
     have SBU:=zH (SB2.out.below b1)
     have hsU:gs+1≤(Y2.alloc (.cells #[.int .i64 ag,.int .i64 hop,.int .i64 hvk,.int .i64 hvn,.string hvs,.int .i64 hrel,.int .i64 hcol,.int .i64 hn,.string hs,.slice hq hlen hc] 46)).heap.size:=SBU.out.box.lt
     have KR:=zH (roomI HN9.out)
     have HSU:=zH hsU
     clear hY2 bY2 kY2 b1 hsU
     go_upto_region 7 with fail
     rw[← HY2.out]
     clear HY2
     go_wp2_with (at_builtin;go_must (refine wp_append_at rfl _ _ 34 46 rfl Tryz.underlying34 _ 112 Tryz.info_item rfl (by omega) elI_ok.len RawI.one (gs+1) _ K rfl OWU.out _ 1 1 [⟨ag,⟨hop,⟨hvk,hvn,hvs⟩,hrel,hcol,hn,hs,hq,hlen,hc⟩⟩] rfl rfl 0 _ (one_block elI_ok.len 46 #[.int .i64 ag,.int .i64 hop,.int .i64 hvk,.int .i64 hvn,.string hvs,.int .i64 hrel,.int .i64 hcol,.int .i64 hn,.string hs,.slice hq hlen hc] ⟨ag,⟨hop,⟨hvk,hvn,hvs⟩,hrel,hcol,hn,hs,hq,hlen,hc⟩⟩ rfl _ rfl) ?kr ?ka ?kb ?_))
     case kr=>exact KR.out.1
     case ka=>exact KR.out.2
     case kb=>exact HSU.out
     intro v2 M ON bN oN hat
     obtain⟨q2,c2,hv2,-⟩:=OwnF.arr elI_ok.len ON
     obtain⟨n2,hn2⟩:∃ m,m=(K++[(⟨ag,⟨hop,⟨hvk,hvn,hvs⟩,hrel,hcol,hn,hs,hq,hlen,hc⟩⟩:RawI)]).length:=⟨_,rfl⟩
     rw[← hn2] at hv2
     subst hv2
     have HN2:=zH hn2
     clear hn2
     have hlo:=fun j (e:(Value.slice q n c).ownBlock=some j)=>(OWU.out.lt j e).1
     have SBM:=zH (SBU.out.outs oN (fun e=>by have:=hlo _ e;omega) (fun e=>by have:=hlo _ e;omega) (fun j e=>.inr (by have:=hlo _ e;have:=HGW.out;omega)))
     have m1:=SBM.out.box.c 1 _ rfl
     have ml:=SBM.out.box.lt
     have mf:=SBM.out.box.fz
     obtain⟨M3,hM3⟩:∃ V0,V0=M.setCell ⟨gs,1,none⟩ (.slice q2 n2 c2):=⟨_,rfl⟩
     have o3:Out (fun j=>j=gs) M M3:=by rw[hM3];exact out_p _ _ _ _
     have SB3:=zH (show SB w M3 p gs gr d (.slice q2 n2 c2) (.slice none 0 0) (.slice none 0 0) (.slice none 0 0) by
      obtain⟨s1,s2,s3⟩:=SBM.out.set (by omega) HGW.out 1 (by omega) (.slice q2 n2 c2)
      rw[← hM3] at s1 s2 s3
      exact⟨s1,s2,s3⟩)
     have OW3:=zH (ON.kept o3 (fun j (hj:j=gs) e=>by have:=(ON.lt j e).1;omega))
     have HM3:=zH hM3
     clear hM3 hlo
     have HE3:=zH (((HEY.out.below HBU.out).outs oN (fun j e=>by have:=(OWU.out.lt j e).1;omega)).outs o3 (fun j (hj:j=gs)=>by omega))
     have WS:=zH (rsign_err p z T er a (bsB [44]) M3 HE3.out)
     clear ON bN oN hat o3 d0 d1 d2 d3 d4 d5 d6 d7 d8 d9 kl c1 cl
     go_upto_region 8 with fail
     rw[← HM3.out]
     clear HM3 m1 ml mf
     go_wp2_with fail
     refine WS.out.mono ?_
     rintro e4 M4 ⟨rfl,hb⟩
     have SB4:=zH (SB3.out.below hb)
     have HE4:=zH (HE3.out.below hb)
     clear hb WS
     go_wp2_with fail
     go_meet
     exact⟨.slice q2 n2 c2,⟨_,_,_,rfl⟩,SB4.out,.inr ⟨er,a,HRES.out,HE4.out⟩⟩
    ·have e8:((n:Int) == 8)=false:=by rw[beq_eq_false_iff_ne];omega
     have OWN0:=OWNW
     have SBV0:=SBW
     have CN:=zH (ritem_any HC.out (.err er a) W (.inr ⟨er,a,rfl,hE⟩))
     clear hE hn h8
     go_upto_region 6 with fail
     clear c1 cl e8
     go_wp2_with fail
     refine CN.out.mono ?_
     intro e2 Y hA2
     obtain⟨hO2,v,rfl,⟨⟨ag,⟨hop,⟨hvk,hvn,hvs⟩,hrel,hcol,hn,hs,hq,hlen,hc⟩⟩,rfl⟩,hE2⟩:=hA2.err rfl
     have OWY:=zH (OWN0.out.kept hO2 (fun j (hj:j=p) e=>by have:=(OWN0.out.lt j e).1;omega))
     have SBY:=zH (SBV0.out.read hO2 (by omega) (by omega))
     have HEY:=zH hE2
     clear hA2 hO2 hE2 CN
     obtain⟨Y2,hY2⟩:∃ V0,V0=Y.alloc (.cells #[.int .i64 ag,.int .i64 hop,.int .i64 hvk,.int .i64 hvn,.string hvs,.int .i64 hrel,.int .i64 hcol,.int .i64 hn,.string hs,.slice hq hlen hc] 46):=⟨_,rfl⟩
     have bY2:Below Y.heap.size Y Y2:=by rw[hY2];exact ext_alloc (ext_refl _) _
     have kY2:BkA Y2 Y.heap.size (RawI.cells ⟨ag,⟨hop,⟨hvk,hvn,hvs⟩,hrel,hcol,hn,hs,hq,hlen,hc⟩⟩):=by rw[hY2];exact BkA.new Y (RawI.cells ⟨ag,⟨hop,⟨hvk,hvn,hvs⟩,hrel,hcol,hn,hs,hq,hlen,hc⟩⟩) 46
     have HY2:=zH hY2
     obtain⟨d0,d1,d2,d3,d4,d5,d6,d7,d8,d9⟩:=kY2.c10_ rfl
     have kl:=kY2.lt
     have OW2:=zH (OWY.out.later bY2)
     have SB2:=zH (SBY.out.below bY2)
     have c1:=SB2.out.box.c 1 _ rfl
     have cl:=SB2.out.box.lt
     have b1:Below Y2.heap.size Y2 (Y2.alloc (.cells #[.int .i64 ag,.int .i64 hop,.int .i64 hvk,.int .i64 hvn,.string hvs,.int .i64 hrel,.int .i64 hcol,.int .i64 hn,.string hs,.slice hq hlen hc] 46)):=ext_alloc (ext_refl _) _
     have HBU:=zH (bY2.trans (b1.mono bY2.size))
     have OWU:=zH (OW2.out.later b1)
     have SBU:=zH (SB2.out.below b1)
     have hsU:gs+1≤(Y2.alloc (.cells #[.int .i64 ag,.int .i64 hop,.int .i64 hvk,.int .i64 hvn,.string hvs,.int .i64 hrel,.int .i64 hcol,.int .i64 hn,.string hs,.slice hq hlen hc] 46)).heap.size:=SBU.out.box.lt
     have KR:=zH (roomI HN9.out)
     have HSU:=zH hsU
     clear hY2 bY2 kY2 b1 hsU
     go_upto_region 7 with fail
     rw[← HY2.out]
     clear HY2
     go_wp2_with (at_builtin;go_must (refine wp_append_at rfl _ _ 34 46 rfl Tryz.underlying34 _ 112 Tryz.info_item rfl (by omega) elI_ok.len RawI.one (gs+1) _ K rfl OWU.out _ 1 1 [⟨ag,⟨hop,⟨hvk,hvn,hvs⟩,hrel,hcol,hn,hs,hq,hlen,hc⟩⟩] rfl rfl 0 _ (one_block elI_ok.len 46 #[.int .i64 ag,.int .i64 hop,.int .i64 hvk,.int .i64 hvn,.string hvs,.int .i64 hrel,.int .i64 hcol,.int .i64 hn,.string hs,.slice hq hlen hc] ⟨ag,⟨hop,⟨hvk,hvn,hvs⟩,hrel,hcol,hn,hs,hq,hlen,hc⟩⟩ rfl _ rfl) ?kr ?ka ?kb ?_))
     case kr=>exact KR.out.1
     case ka=>exact KR.out.2
     case kb=>exact HSU.out
     intro v2 M ON bN oN hat
     obtain⟨q2,c2,hv2,-⟩:=OwnF.arr elI_ok.len ON
     obtain⟨n2,hn2⟩:∃ m,m=(K++[(⟨ag,⟨hop,⟨hvk,hvn,hvs⟩,hrel,hcol,hn,hs,hq,hlen,hc⟩⟩:RawI)]).length:=⟨_,rfl⟩
     rw[← hn2] at hv2
     subst hv2
     have HN2:=zH hn2
     clear hn2
     have hlo:=fun j (e:(Value.slice q n c).ownBlock=some j)=>(OWU.out.lt j e).1
     have SBM:=zH (SBU.out.outs oN (fun e=>by have:=hlo _ e;omega) (fun e=>by have:=hlo _ e;omega) (fun j e=>.inr (by have:=hlo _ e;have:=HGW.out;omega)))
     have m1:=SBM.out.box.c 1 _ rfl
     have ml:=SBM.out.box.lt
     have mf:=SBM.out.box.fz
     obtain⟨M3,hM3⟩:∃ V0,V0=M.setCell ⟨gs,1,none⟩ (.slice q2 n2 c2):=⟨_,rfl⟩
     have o3:Out (fun j=>j=gs) M M3:=by rw[hM3];exact out_p _ _ _ _
     have SB3:=zH (show SB w M3 p gs gr d (.slice q2 n2 c2) (.slice none 0 0) (.slice none 0 0) (.slice none 0 0) by
      obtain⟨s1,s2,s3⟩:=SBM.out.set (by omega) HGW.out 1 (by omega) (.slice q2 n2 c2)
      rw[← hM3] at s1 s2 s3
      exact⟨s1,s2,s3⟩)
     have OW3:=zH (ON.kept o3 (fun j (hj:j=gs) e=>by have:=(ON.lt j e).1;omega))
     have HM3:=zH hM3
     clear hM3 hlo
     have HE3:=zH (((HEY.out.below HBU.out).outs oN (fun j e=>by have:=(OWU.out.lt j e).1;omega)).outs o3 (fun j (hj:j=gs)=>by omega))
     have WS:=zH (rsign_err p z T er a (bsB [44]) M3 HE3.out)
     clear ON bN oN hat o3 d0 d1 d2 d3 d4 d5 d6 d7 d8 d9 kl c1 cl
     go_upto_region 8 with fail
     rw[← HM3.out]
     clear HM3 m1 ml mf
     go_wp2_with fail
     refine WS.out.mono ?_
     rintro e4 M4 ⟨rfl,hb⟩
     have SB4:=zH (SB3.out.below hb)
     have HE4:=zH (HE3.out.below hb)
     clear hb WS
     go_wp2_with fail
     go_meet
     exact⟨.slice q2 n2 c2,⟨_,_,_,rfl⟩,SB4.out,.inr ⟨er,a,HRES.out,HE4.out⟩⟩
 case rest =>
  obtain⟨vi,hvi,hSB,hA⟩:=hcut
  have HVI:=zH hvi
  clear hvi
  obtain⟨W0,hW0⟩:∃ W,W=wc:=⟨_,rfl⟩
  rw[← hW0] at hSB hA ⊢
  obtain⟨bf,hbf⟩:∃ b,b=W0.heap.size:=⟨_,rfl⟩
  have hgb:gs<bf:=by rw[hbf];exact hSB.out.box.lt
  have SBA:=zH hSB.out
  have hA1:AltP W0 p z T k (fun L=>Part elI W0 gs bf L vi) (fun L r=>need z kwFrom r (fun r2=>(bTable z 0 0 4 r2).bind fun f=>selN z orr d L [f])) res:=by
   have h:=hA.out
   rw[← hbf,show selK z orr d=fun L r=>need z kwFrom r (fun r2=>(bTable z 0 0 4 r2).bind fun f=>selN z orr d L [f]) from funext fun i=>selK_eq z orr d i] at h
   exact h
  have C2:=zH (hA1.mustW (by decide))
  have HBW:=zH hbf
  clear hW0 hSB hA hA1 hbf
  go_wp2_with fail
  refine C2.out.mono ?_
  rintro e V1 ⟨rfl,hO1,hA1⟩
  have SB1:=zH (SBA.out.read hO1 (by omega) (by omega))
  have hV1:bf≤V1.heap.size:=by rw[HBW.out];exact hO1.size
  have hA1':=hA1.outs (S:=fun _=>False) (Q':=fun L=>Part elI V1 gs bf L vi) (Out.of (Below.refl _ _)) (fun _ h=>h.elim) (fun L hL=>Part.outs elI_ok hL hO1 (fun j (hj:j=p)=>.inl (by omega)))
  have C3:=zH (AltP.call (g:=fun L f=>selN z orr d L [f]) hA1' (fun res0 s=>rtable_any 0 0 4 false rfl res0 V1 s))
  clear hO1 hA1 hA1' C2
  go_wp2_with fail
  refine C3.out.mono ?_
  rintro e2 X ⟨hO2,v,rfl,⟨⟨ft,fa,fk,fq,fn,fc⟩,rfl⟩,hA2⟩
  obtain⟨Y,hY⟩:∃ V0,V0=X.alloc (.cells #[.string ft,.string fa,.int .i64 fk,.slice fq fn fc] 40):=⟨_,rfl⟩
  have bY:Below X.heap.size X Y:=by rw[hY];exact ext_alloc (ext_refl _) _
  have kY:BkA Y X.heap.size (RawF.cells ⟨ft,fa,fk,fq,fn,fc⟩):=by rw[hY];exact BkA.new X (RawF.cells ⟨ft,fa,fk,fq,fn,fc⟩) 40
  have oY:Out (fun j=>j=p) V1 Y:=hO2.trans (Out.of bY)
  have AY:=zH (hA2.below bY (Q':=fun xy=>Part elI Y gs bf xy.1 vi∧elF.rel Y (fun g=>V1.heap.size≤g) xy.2 ⟨ft,fa,fk,fq,fn,fc⟩) (fun xy h=>⟨Part.outs elI_ok h.1 oY (fun j (hj:j=p)=>.inl (by omega)),by
   obtain⟨r',hv,hr⟩:=h.2
   obtain⟨t',a',k',q',n',c'⟩:=r'
   simp only[Ending.returned.injEq,Value.agg.injEq,Array.mk.injEq,List.cons.injEq,Value.string.injEq,Value.int.injEq,Value.slice.injEq,and_true,true_and] at hv
   obtain⟨rfl,rfl,rfl,rfl,rfl,rfl⟩:=hv
   exact elF_ok.on bY.size (fun g _ hl=>bY.block g hl) (fun g hg _=>hg) _ _ hr⟩))
  have HY:=zH hY
  have KB:=zH kY
  obtain⟨q,n,c,K,hOW,hSB,hn,hob⟩:∃ (q:Option Addr) (n c:Nat) (K:List RawF),OwnF Y bf 40 4 RawF.cells (.slice q n c) K∧SB w Y p gs gr d vi (.slice q n c) (.slice none 0 0) (.slice none 0 0)∧K=[]∧(Value.slice q n c).ownBlock=none:=⟨none,0,0,[],OwnF.nil _ _ _,(SB1.out.read hO2 (by omega) (by omega)).below bY,rfl,rfl⟩
  have OWY:=zH hOW
  have SBY:=zH hSB
  have HN9:=zH (show K.length≤8 by rw[hn];simp)
  have HK0:=zH hn
  have HOB:=zH hob
  have HBF:=zH (show bf≤Y.heap.size from Nat.le_trans hV1 oY.size)
  have HVY:=zH oY.size
  clear hO2 hA2 hY bY kY oY hOW hSB hn hob C3 SB1
  go_upto_region 12 with fail
  rw[← HY.out]
  clear HY
  obtain⟨gb,hgbb⟩:∃ g,g=X.heap.size:=⟨_,rfl⟩
  rw[← hgbb] at KB ⊢
  clear hgbb
  have c2:=SBY.out.box.c 2 _ rfl
  have cl:=SBY.out.box.lt
  obtain⟨d0,d1,d2,d3⟩:=KB.out.c4_ rfl
  have kl:=KB.out.lt
  have b1:Below Y.heap.size Y (Y.alloc (.cells #[.string ft,.string fa,.int .i64 fk,.slice fq fn fc] 40)):=ext_alloc (ext_refl _) _
  have HBU:=zH b1
  have OWU:=zH (OWY.out.later b1)
  have SBU:=zH (SBY.out.below b1)
  have hsU:bf≤(Y.alloc (.cells #[.string ft,.string fa,.int .i64 fk,.slice fq fn fc] 40)).heap.size:=Nat.le_trans HBF.out b1.size
  have KR:=zH (roomF HN9.out)
  have HSU:=zH hsU
  clear b1 hsU
  go_wp2_with (at_builtin;go_must (refine wp_append_at rfl _ _ 35 40 rfl Tryz.underlying35 _ 64 Tryz.info_from rfl (by omega) elF_ok.len RawF.one bf _ K rfl OWU.out _ 1 1 [⟨ft,fa,fk,fq,fn,fc⟩] rfl rfl 0 _ (one_block elF_ok.len 40 #[.string ft,.string fa,.int .i64 fk,.slice fq fn fc] ⟨ft,fa,fk,fq,fn,fc⟩ rfl _ rfl) ?kr ?ka ?kb ?_))
  case kr=>exact KR.out.1
  case ka=>exact KR.out.2
  case kb=>simpa using HSU.out
  intro v2 M ON bN oN hat
  obtain⟨q2,c9,hv2,-⟩:=OwnF.arr elF_ok.len ON
  obtain⟨n2,hn2⟩:∃ m,m=(K++[(⟨ft,fa,fk,fq,fn,fc⟩:RawF)]).length:=⟨_,rfl⟩
  rw[← hn2] at hv2
  subst hv2
  have HN2:=zH hn2
  clear hn2
  have hlo:=fun j (e:(Value.slice q n c).ownBlock=some j)=>(OWU.out.lt j e).1
  have SBM:=zH (SBU.out.outs oN (fun e=>by have:=hlo _ e;omega) (fun e=>by have:=hlo _ e;omega) (fun j e=>.inr (by have:=hlo _ e;have:=HGW.out;omega)))
  have m2:=SBM.out.box.c 2 _ rfl
  have ml:=SBM.out.box.lt
  have mf:=SBM.out.box.fz
  obtain⟨M3,hM3⟩:∃ V0,V0=M.setCell ⟨gs,2,none⟩ (.slice q2 n2 c9):=⟨_,rfl⟩
  have o3:Out (fun j=>j=gs) M M3:=by rw[hM3];exact out_p _ _ _ _
  have SB3:=zH (show SB w M3 p gs gr d vi (.slice q2 n2 c9) (.slice none 0 0) (.slice none 0 0) by
   obtain⟨s1,s2,s3⟩:=SBM.out.set (by omega) HGW.out 2 (by omega) (.slice q2 n2 c9)
   rw[← hM3] at s1 s2 s3
   exact⟨s1,s2,s3⟩)
  have OW3:=zH (ON.kept o3 (fun j (hj:j=gs) e=>by have:=(ON.lt j e).1;omega))
  have oU3:Out (fun j=>j=gs∨bf≤j) Y M3:=((Out.of HBU.out).trans (oN.mono fun j _ e=>.inr (hlo j e))).trans (o3.mono fun j _ e=>.inl e)
  have HM3:=zH hM3
  clear hM3 hlo
  go_upto_block 2 with fail
  rw[← HM3.out]
  clear HM3 m2 ml mf d0 d1 d2 d3 kl c2 cl
  have AF:=zH (AY.out.mapo (fun xy=>(xy.1,[xy.2])) (Q':=fun (xy:List It × List Fr)=>Part elI M3 gs bf xy.1 vi∧LsO elF M3 bf (.slice q2 n2 c9) xy.2∧xy.2.length≤4) (f':=fun xy=>selN z orr d xy.1 xy.2) oU3 (fun j hj=>by omega) (fun xy h=>⟨Part.outs elI_ok h.1 oU3 (fun j hj=>by omega),from_grown (c:=[]) ⟨by rw[HK0.out];rfl,fun j r x hr=>by rw[HK0.out] at hr;simp at hr⟩ (fun k e=>by rw[HOB.out] at e;cases e) h.2 hV1 HVY.out HBU.out ON oN (by rcases hat with h | h;exact .inl h;exact .inr (by simpa using h)) o3 hgb,by simp⟩) (fun _ _ _=>rfl))
  have HBM:=zH (Nat.le_trans HBF.out oU3.size)
  go_cut [8] (fun _ wc=>∃ (q:Option Addr) (n c:Nat),bf≤wc.heap.size∧Hid (SB w wc p gs gr d vi (.slice q n c) (.slice none 0 0) (.slice none 0 0))∧Hid (AltP wc p z T k (fun (x:List It × List Fr)=>Part elI wc gs bf x.1 vi∧LsO elF wc bf (.slice q n c) x.2∧x.2.length≤4) (fun x=>selO z orr d x.1 x.2 []) res))
  case first =>
   have AF0:=AF
   go_wp2_with fail
   go_loopw [7] (fun _ wr=>∃ (q:Option Addr) (n c:Nat),bf≤wr.heap.size∧Hid (SB w wr p gs gr d vi (.slice q n c) (.slice none 0 0) (.slice none 0 0))∧Hid (AltP wr p z T k (fun (x:List It × List Fr)=>Part elI wr gs bf x.1 vi∧LsO elF wr bf (.slice q n c) x.2∧x.2.length≤4) (fun x=>selN z orr d x.1 x.2) res)) (fun _ wr=>rleft wr p)
   case atStart=>exact⟨q2,n2,c9,HBM.out,SB3.out,AF0.out⟩
   case round =>
    clear AF AF0 HBM SB3 OW3 HN2 SBM SBU OWU OWY SBY HVY HBU HSU KR HN9 HK0 HOB KB AY
    obtain⟨q,n,c,hbW,hSB,hA⟩:=hrel
    obtain⟨W,hW⟩:∃ W,W=wr:=⟨_,rfl⟩
    rw[← hW] at hSB hA ⊢
    have SBW:=zH hSB.out
    have HBW2:=zH (show bf≤W.heap.size by rw[hW];exact hbW)
    clear hW hSB hbW
    rcases AltP.inner hK (c:=fun x:List It × List Fr=>x.2) (g:=fun x c2=>selO z orr d x.1 c2 []) hA.out with ⟨⟨L,cc⟩,t,l,hR,hc,⟨hP,hL,h4⟩,hq⟩ |⟨⟨L,cc⟩,t,l,hR,hc0,hc,⟨hP,hL,h4⟩,hq⟩ |⟨WN1,WN2,AL⟩
    ·
     obtain⟨K,k1,k2,k3⟩:=hL.own
     obtain⟨q9,c0,e9,-⟩:=OwnF.arr elF_ok.len k1
     have hnk:n=K.length:=by simp only[Value.slice.injEq] at e9;exact e9.2.1
     have HNN:=zH hnk
     have HC4:=zH h4
     have HN9:=zH (show K.length≤8 by have h1:=k2;have h2:=h4;omega)
     have HLW:=zH hR.left
     have OWW:=zH k1
     have RELW:=zH (show Rel elF W bf (.slice q n c) K cc from ⟨k2,k3⟩)
     have PTW:=zH hP
     have HPR:=zH hR
     have HHC:=zH hc
     obtain⟨GK,hGK⟩:∃ G:Unit→Fr→Rd Sel,G=fun _ f=>selN z orr d L (cc++[f]):=⟨_,rfl⟩
     have HQ:=zH (show (bTable z 0 cc.length 4 l).bind (GK ())=res by rw[hGK];exact hq)
     have HGK:=zH hGK
     have WS:=zH (rsign_yes p z k T t l [44] W HPR.out HHC.out)
     clear hR hc hP hL h4 hq k1 k2 k3 e9 hnk hGK hA
     go_wp2_with fail
     refine WS.out.mono ?_
     rintro e1 X1 ⟨rfl,hR1,hO1⟩
     have SBX:=zH (SBW.out.read hO1 (by omega) (by omega))
     have OWX:=zH (OWW.out.kept hO1 (fun j (hj:j=p) e=>by have:=(OWW.out.lt j e).1;omega))
     have RELX:=zH (Rel.outs elF_ok RELW.out hO1 (fun j (hj:j=p) _=>by omega))
     have PTX:=zH (Part.outs elI_ok PTW.out hO1 (fun j (hj:j=p)=>.inl (by omega)))
     have HWX:=zH (Nat.le_trans HBW2.out hO1.size)
     clear hO1 WS
     have hAX:AltP X1 p z T k (fun _:Unit=>True) (fun _ l=>(bTable z 0 cc.length 4 l).bind (GK ())) res:=.inl ⟨(),l,hR1,trivial,HQ.out⟩
     have hb4:decide ((4:Int)≤(n:Int))=decide (cc.length=4):=by
      have h1:=RELX.out.1
      have h2:=HNN.out
      have h3:=HC4.out
      exact decide_eq_decide.2 ⟨fun h=>by omega,fun h=>by omega⟩
     have C3:=zH (AltP.callL (bTable_shr z 0 cc.length 4).keep (Pr:=fun _=>cc.length≠4) (fun l y r h=>bTable_room h) (g:=GK) hAX (fun res0 s=>rtable_any 0 cc.length 4 (decide ((4:Int)≤(n:Int))) hb4 res0 X1 s))
     have c2:=SBX.out.box.c 2 _ rfl
     have cl:=SBX.out.box.lt
     have HL1:=zH hR1.left
     clear hR1 hAX hb4
     go_wp2_with fail
     refine C3.out.mono ?_
     rintro e2 X ⟨hlf,hO2,v,rfl,⟨⟨ft,fa,fk,fq,fn,fc⟩,rfl⟩,hA2⟩
     obtain⟨Y0,hY⟩:∃ V0,V0=X.alloc (.cells #[.string ft,.string fa,.int .i64 fk,.slice fq fn fc] 40):=⟨_,rfl⟩
     have bY:Below X.heap.size X Y0:=by rw[hY];exact ext_alloc (ext_refl _) _
     have kY:BkA Y0 X.heap.size (RawF.cells ⟨ft,fa,fk,fq,fn,fc⟩):=by rw[hY];exact BkA.new X (RawF.cells ⟨ft,fa,fk,fq,fn,fc⟩) 40
     have oY:Out (fun j=>j=p) X1 Y0:=hO2.trans (Out.of bY)
     have AY0:=zH (hA2.below bY (Q':=fun xy:Unit × Fr=>elF.rel Y0 (fun g=>X1.heap.size≤g) xy.2 ⟨ft,fa,fk,fq,fn,fc⟩∧cc.length≠4) (fun xy h=>⟨by
      obtain⟨r',hv,hr⟩:=h.2.1
      obtain⟨t',a',k',q',n',c'⟩:=r'
      simp only[Ending.returned.injEq,Value.agg.injEq,Array.mk.injEq,List.cons.injEq,Value.string.injEq,Value.int.injEq,Value.slice.injEq,and_true,true_and] at hv
      obtain⟨rfl,rfl,rfl,rfl,rfl,rfl⟩:=hv
      exact elF_ok.on bY.size (fun g _ hl=>bY.block g hl) (fun g hg _=>hg) _ _ hr,h.2.2⟩))
     have HY:=zH hY
     have KB0:=zH kY
     have OY0:=zH oY
     have SBY0:=zH ((SBX.out.read hO2 (by omega) (by omega)).below bY)
     have HPX:=zH (show p<X.heap.size by have h:=KB0.out.lt;have h2:=SBX.out.box.lt;have h3:=hO2.size;omega)
     have HLY:=zH (show rleft Y0 p≤l.length+1 by rw[rleft_on (bY.block p HPX.out),← HL1.out];exact hlf)
     have hgX:gs<X.heap.size:=Nat.lt_of_lt_of_le SBX.out.box.lt hO2.size
     have hbX:bf≤X.heap.size:=Nat.le_trans HWX.out hO2.size
     have HXG0:=zH hO2.size
     clear hlf hO2 hA2 hY bY kY oY C3 c2 cl
     go_upto_region 17 with fail
     rw[← HY.out]
     clear HY
     obtain⟨gb,hgbb⟩:∃ g,g=X.heap.size:=⟨_,rfl⟩
     rw[← hgbb] at KB0 ⊢
     clear hgbb
     obtain⟨Y,hYY⟩:∃ V0,V0=Y0:=⟨_,rfl⟩
     rw[← hYY] at KB0 AY0 OY0 SBY0 HLY ⊢
     clear hYY
     have KB:=KB0
     have SBY:=SBY0
     have OXY:=OY0
     have HLY2:=HLY
     have OWY:=zH (OWX.out.kept OXY.out (fun j (hj:j=p) e=>by have:=(OWX.out.lt j e).1;omega))
     have HBF:=zH (Nat.le_trans HWX.out OXY.out.size)
     have AYF:=zH (show AltP Y p z T k (fun f=>elF.rel Y (fun g=>X1.heap.size≤g) f ⟨ft,fa,fk,fq,fn,fc⟩∧cc.length≠4) (fun f=>selN z orr d L (cc++[f])) res from AY0.out.mapo (S:=fun _=>False) (fun xy=>xy.2) (Out.of (Below.refl _ _)) (fun _ h=>h.elim) (fun xy h=>h) (fun xy l _=>by rw[HGK.out]))
     clear KB0 AY0 OY0 SBY0 HLY
     have c2:=SBY.out.box.c 2 _ rfl
     have cl:=SBY.out.box.lt
     obtain⟨d0,d1,d2,d3⟩:=KB.out.c4_ rfl
     have kl:=KB.out.lt
     have b1:Below Y.heap.size Y (Y.alloc (.cells #[.string ft,.string fa,.int .i64 fk,.slice fq fn fc] 40)):=ext_alloc (ext_refl _) _
     have HBU:=zH b1
     have OWU:=zH (OWY.out.later b1)
     have SBU:=zH (SBY.out.below b1)
     have hsU:bf≤(Y.alloc (.cells #[.string ft,.string fa,.int .i64 fk,.slice fq fn fc] 40)).heap.size:=Nat.le_trans HBF.out b1.size
     have KR:=zH (roomF HN9.out)
     have HSU:=zH hsU
     clear b1 hsU
     go_wp2_with (at_builtin;go_must (refine wp_append_at rfl _ _ 35 40 rfl Tryz.underlying35 _ 64 Tryz.info_from rfl (by omega) elF_ok.len RawF.one bf _ K rfl OWU.out _ 1 1 [⟨ft,fa,fk,fq,fn,fc⟩] rfl rfl 0 _ (one_block elF_ok.len 40 #[.string ft,.string fa,.int .i64 fk,.slice fq fn fc] ⟨ft,fa,fk,fq,fn,fc⟩ rfl _ rfl) ?kr ?ka ?kb ?_))
     case kr=>exact KR.out.1
     case ka=>exact KR.out.2
     case kb=>simpa using HSU.out
     intro v2 M ON bN oN hat
     obtain⟨q2,c9,hv2,-⟩:=OwnF.arr elF_ok.len ON
     obtain⟨n2,hn2⟩:∃ m,m=(K++[(⟨ft,fa,fk,fq,fn,fc⟩:RawF)]).length:=⟨_,rfl⟩
     rw[← hn2] at hv2
     subst hv2
     have HN2:=zH hn2
     clear hn2
     have hlo:=fun j (e:(Value.slice q n c).ownBlock=some j)=>(OWU.out.lt j e).1
     have SBM:=zH (SBU.out.outs oN (fun e=>by have:=hlo _ e;omega) (fun e=>by have:=hlo _ e;omega) (fun j e=>.inr (by have:=hlo _ e;have:=HGW.out;omega)))
     have m2:=SBM.out.box.c 2 _ rfl
     have ml:=SBM.out.box.lt
     have mf:=SBM.out.box.fz
     obtain⟨M3,hM3⟩:∃ V0,V0=M.setCell ⟨gs,2,none⟩ (.slice q2 n2 c9):=⟨_,rfl⟩
     have o3:Out (fun j=>j=gs) M M3:=by rw[hM3];exact out_p _ _ _ _
     have SB3:=zH (show SB w M3 p gs gr d vi (.slice q2 n2 c9) (.slice none 0 0) (.slice none 0 0) by
      obtain⟨s1,s2,s3⟩:=SBM.out.set (by omega) HGW.out 2 (by omega) (.slice q2 n2 c9)
      rw[← hM3] at s1 s2 s3
      exact⟨s1,s2,s3⟩)
     have OW3:=zH (ON.kept o3 (fun j (hj:j=gs) e=>by have:=(ON.lt j e).1;omega))
     have oU3:Out (fun j=>j=gs∨bf≤j) Y M3:=((Out.of HBU.out).trans (oN.mono fun j _ e=>.inr (hlo j e))).trans (o3.mono fun j _ e=>.inl e)
     have HM3:=zH hM3
     clear hM3 hlo
     clear d0 d1 d2 d3 kl c2 cl
     have AF:=zH (AYF.out.mapo (fun f=>(L,cc++[f])) (Q':=fun (x:List It × List Fr)=>Part elI M3 gs bf x.1 vi∧LsO elF M3 bf (.slice q2 n2 c9) x.2∧x.2.length≤4) (f':=fun x=>selN z orr d x.1 x.2) oU3 (fun j hj=>by omega) (fun f h=>⟨Part.outs elI_ok (Part.outs elI_ok PTX.out OXY.out (fun j (hj:j=p)=>.inl (by omega))) oU3 (fun j hj=>by omega),from_grown (Rel.outs elF_ok RELX.out OXY.out (fun j (hj:j=p) _=>by omega)) (fun k e=>(OWX.out.lt k e).2) h.1 HWX.out OXY.out.size HBU.out ON oN (by rcases hat with h | h;exact .inl h;exact .inr (by simpa using h)) o3 hgb,by have h1:=h.2;have h2:=HC4.out;simp;omega⟩) (fun _ _ _=>rfl))
     have HBM:=zH (Nat.le_trans HBF.out oU3.size)
     have HLT:=zH (show rleft M3 p<rleft W p by
      have hpY:p<Y.heap.size:=by have h:=SBY.out.box.lt;omega
      rw[rleft_on (oU3.block p hpY (by omega)),HLW.out]
      have:=HLY2.out
      simp only[List.length_cons]
      omega)
     clear ON bN oN hat o3 oU3
     go_wp2_with fail
     go_roundw
     case rel =>
      rw[← HM3.out]
      exact⟨q2,n2,c9,HBM.out,SB3.out,AF.out⟩
     case measure =>
      rw[← HM3.out]
      exact HLT.out
    ·
     obtain⟨K,k1,k2,k3⟩:=hL.own
     obtain⟨q9,c0,e9,-⟩:=OwnF.arr elF_ok.len k1
     have hnk:n=K.length:=by simp only[Value.slice.injEq] at e9;exact e9.2.1
     have HNN:=zH hnk
     have HC4:=zH h4
     have HN9:=zH (show K.length≤8 by have h1:=k2;have h2:=h4;omega)
     have HLW:=zH hR.left
     have OWW:=zH k1
     have RELW:=zH (show Rel elF W bf (.slice q n c) K cc from ⟨k2,k3⟩)
     have PTW:=zH hP
     have HPR:=zH hR
     have HHC:=zH hc
     have HH0:=zH hc0
     obtain⟨GK,hGK⟩:∃ G:Unit→Fr→Rd Sel,G=fun _ f r=>(need z kwOn r fun r3=>(orr r3).map fun y=>[y]).bind fun xs r=>selN z orr d L (cc++[{ f with on:=xs }]) r:=⟨_,rfl⟩
     have HQ:=zH (show (bTable z 0 cc.length 4 l).bind (GK ())=res by rw[hGK];exact hq)
     have HGK:=zH hGK
     have WN:=zH (rsign_no p z k T (t :: l) [44] W HPR.out HH0.out)
     clear hR hc hc0 hP hL h4 hq k1 k2 k3 e9 hnk hGK hA
     go_wp2_with fail
     refine WN.out.mono ?_
     rintro e1 V1 ⟨rfl,hb1⟩
     have WS:=zH (rword_yes p z k T t l kwJoin V1 (HPR.out.below hb1) HHC.out)
     have OB1:=zH (Out.of (S:=fun j=>j=p) hb1)
     clear hb1 WN
     go_wp2_with fail
     refine WS.out.mono ?_
     rintro e1 X1 ⟨rfl,hR1,hOX⟩
     have hO1:=OB1.out.trans hOX
     have SBX:=zH (SBW.out.read hO1 (by omega) (by omega))
     have OWX:=zH (OWW.out.kept hO1 (fun j (hj:j=p) e=>by have:=(OWW.out.lt j e).1;omega))
     have RELX:=zH (Rel.outs elF_ok RELW.out hO1 (fun j (hj:j=p) _=>by omega))
     have PTX:=zH (Part.outs elI_ok PTW.out hO1 (fun j (hj:j=p)=>.inl (by omega)))
     have HWX:=zH (Nat.le_trans HBW2.out hO1.size)
     clear hO1 hOX WS
     have hAX:AltP X1 p z T k (fun _:Unit=>True) (fun _ l=>(bTable z 0 cc.length 4 l).bind (GK ())) res:=.inl ⟨(),l,hR1,trivial,HQ.out⟩
     have hb4:decide ((4:Int)≤(n:Int))=decide (cc.length=4):=by
      have h1:=RELX.out.1
      have h2:=HNN.out
      have h3:=HC4.out
      exact decide_eq_decide.2 ⟨fun h=>by omega,fun h=>by omega⟩
     have C3:=zH (AltP.callL (bTable_shr z 0 cc.length 4).keep (Pr:=fun _=>cc.length≠4) (fun l y r h=>bTable_room h) (g:=GK) hAX (fun res0 s=>rtable_any 0 cc.length 4 (decide ((4:Int)≤(n:Int))) hb4 res0 X1 s))
     have c2:=SBX.out.box.c 2 _ rfl
     have cl:=SBX.out.box.lt
     have HL1:=zH hR1.left
     clear hR1 hAX hb4
     go_wp2_with fail
     refine C3.out.mono ?_
     rintro e2 X ⟨hlf,hO2,v,rfl,⟨⟨ft,fa,fk,fq,fn,fc⟩,rfl⟩,hA2⟩
     obtain⟨Y0,hY⟩:∃ V0,V0=X.alloc (.cells #[.string ft,.string fa,.int .i64 fk,.slice fq fn fc] 40):=⟨_,rfl⟩
     have bY:Below X.heap.size X Y0:=by rw[hY];exact ext_alloc (ext_refl _) _
     have kY:BkA Y0 X.heap.size (RawF.cells ⟨ft,fa,fk,fq,fn,fc⟩):=by rw[hY];exact BkA.new X (RawF.cells ⟨ft,fa,fk,fq,fn,fc⟩) 40
     have oY:Out (fun j=>j=p) X1 Y0:=hO2.trans (Out.of bY)
     have AY0:=zH (hA2.below bY (Q':=fun xy:Unit × Fr=>elF.rel Y0 (fun g=>X1.heap.size≤g) xy.2 ⟨ft,fa,fk,fq,fn,fc⟩∧cc.length≠4) (fun xy h=>⟨by
      obtain⟨r',hv,hr⟩:=h.2.1
      obtain⟨t',a',k',q',n',c'⟩:=r'
      simp only[Ending.returned.injEq,Value.agg.injEq,Array.mk.injEq,List.cons.injEq,Value.string.injEq,Value.int.injEq,Value.slice.injEq,and_true,true_and] at hv
      obtain⟨rfl,rfl,rfl,rfl,rfl,rfl⟩:=hv
      exact elF_ok.on bY.size (fun g _ hl=>bY.block g hl) (fun g hg _=>hg) _ _ hr,h.2.2⟩))
     have HY:=zH hY
     have KB0:=zH kY
     have OY0:=zH oY
     have SBY0:=zH ((SBX.out.read hO2 (by omega) (by omega)).below bY)
     have HPX:=zH (show p<X.heap.size by have h:=KB0.out.lt;have h2:=SBX.out.box.lt;have h3:=hO2.size;omega)
     have HLY:=zH (show rleft Y0 p≤l.length+1 by rw[rleft_on (bY.block p HPX.out),← HL1.out];exact hlf)
     have hgX:gs<X.heap.size:=Nat.lt_of_lt_of_le SBX.out.box.lt hO2.size
     have hbX:bf≤X.heap.size:=Nat.le_trans HWX.out hO2.size
     have HXG0:=zH hO2.size
     clear hlf hO2 hA2 hY bY kY oY C3 c2 cl
     go_upto_region 17 with fail
     rw[← HY.out]
     clear HY
     obtain⟨gb,hgbb⟩:∃ g,g=X.heap.size:=⟨_,rfl⟩
     rw[← hgbb] at KB0 hgX hbX HXG0 ⊢
     have HXG:=HXG0
     clear hgbb HXG0
     have C4:=zH (AltP.callL (Q:=fun xy:Unit × Fr=>elF.rel Y0 (fun g=>X1.heap.size≤g) xy.2 ⟨ft,fa,fk,fq,fn,fc⟩∧cc.length≠4) (one:=fun r=>need z kwOn r fun r3=>(orr r3).map fun y=>[y]) (need_shr (map_keep hK.keep)).keep (Pr:=fun _=>True) (fun _ _ _ _=>trivial) (g:=fun xy xs r=>selN z orr d L (cc++[{ xy.2 with on:=xs }]) r) (by have h:=AY0.out;rw[HGK.out] at h;exact h) (fun res0 s=>ron_any HC.out res0 Y0 s))
     go_wp2_with fail
     refine C4.out.mono ?_
     rintro e5 X2 ⟨hlf,hO5,v5,rfl,⟨gq,gn,gc,rfl⟩,hA5⟩
     have KB2:=zH (KB0.out.outs hO5 (by omega))
     have y3:=KB2.out.c 3 _ rfl
     have yl:=KB2.out.lt
     have yf:=KB2.out.fz
     obtain⟨Y,hY⟩:∃ V0,V0=X2.setCell ⟨gb,3,none⟩ (.slice gq gn gc):=⟨_,rfl⟩
     have oS:Out (fun j=>j=gb) X2 Y:=by rw[hY];exact out_p _ _ _ _
     have KB:Hid (BkA Y gb (RawF.cells ⟨ft,fa,fk,gq,gn,gc⟩)):=zH (by rw[hY];exact KB2.out.set1 3 (by simp) _)
     have hgY0:=KB0.out.lt
     have oYY:Out (fun j=>j=p∨j=gb) Y0 Y:=(hO5.mono fun j _ h=>.inl h).trans (oS.mono fun j _ h=>.inr h)
     have OXY:=zH (Out.down ((OY0.out.up (N:=X1.heap.size)).trans (oYY.mono fun j _ h=>by rcases h with h | h;exact .inl h;exact .inr (by have:=HXG.out;omega))))
     have SBY:=zH (SBY0.out.outs oYY (by omega) (by omega) (fun j h=>by rcases h with h | h;exact .inl h;exact .inr (by have:=HGW.out;omega)))
     have HLY2:=zH (show rleft Y p≤l.length+1 by rw[rleft_on (oS.block p (Nat.lt_of_lt_of_le (Nat.lt_trans (by omega) hgY0) hO5.size) (by omega))];exact Nat.le_trans hlf HLY.out)
     have OWY:=zH (OWX.out.kept OXY.out (fun j (hj:j=p) e=>by have:=(OWX.out.lt j e).1;omega))
     have HBF:=zH (Nat.le_trans HWX.out OXY.out.size)
     have AYF:=zH (show AltP Y p z T k (fun f=>elF.rel Y (fun g=>X1.heap.size≤g) f ⟨ft,fa,fk,gq,gn,gc⟩∧cc.length≠4) (fun f=>selN z orr d L (cc++[f])) res from hA5.mapo (fun xy=>{ xy.1.2 with on:=xy.2 }) oS (fun j (hj:j=gb)=>by omega) (fun xy h=>by
      obtain⟨⟨⟨r1,r2,r3,-⟩,h4⟩,⟨q6,c6,e6,l6,x6⟩,-⟩:=h
      simp only[Value.slice.injEq] at e6
      obtain⟨rfl,rfl,rfl⟩:=e6
      refine⟨⟨r1,r2,r3,rfl,l6,?_⟩,h4⟩
      exact ExLP.on oS.size (fun g hg hl=>oS.block g hl (fun (e:g=gb)=>by have:=hg;omega)) (fun g hg _=>Nat.le_trans OY0.out.size hg) _ _ _ x6) (fun _ _ _=>rfl))
     have HYY:=zH hY
     clear hlf hO5 hA5 hY oS oYY hgY0 C4 KB0 AY0 SBY0 HLY
     go_upto_region 19 with fail
     rw[← HYY.out]
     clear HYY y3 yl yf KB2
     have c2:=SBY.out.box.c 2 _ rfl
     have cl:=SBY.out.box.lt
     obtain⟨d0,d1,d2,d3⟩:=KB.out.c4_ rfl
     have kl:=KB.out.lt
     have b1:Below Y.heap.size Y (Y.alloc (.cells #[.string ft,.string fa,.int .i64 fk,.slice gq gn gc] 40)):=ext_alloc (ext_refl _) _
     have HBU:=zH b1
     have OWU:=zH (OWY.out.later b1)
     have SBU:=zH (SBY.out.below b1)
     have hsU:bf≤(Y.alloc (.cells #[.string ft,.string fa,.int .i64 fk,.slice gq gn gc] 40)).heap.size:=Nat.le_trans HBF.out b1.size
     have KR:=zH (roomF HN9.out)
     have HSU:=zH hsU
     clear b1 hsU
     go_wp2_with (at_builtin;go_must (refine wp_append_at rfl _ _ 35 40 rfl Tryz.underlying35 _ 64 Tryz.info_from rfl (by omega) elF_ok.len RawF.one bf _ K rfl OWU.out _ 1 1 [⟨ft,fa,fk,gq,gn,gc⟩] rfl rfl 0 _ (one_block elF_ok.len 40 #[.string ft,.string fa,.int .i64 fk,.slice gq gn gc] ⟨ft,fa,fk,gq,gn,gc⟩ rfl _ rfl) ?kr ?ka ?kb ?_))
     case kr=>exact KR.out.1
     case ka=>exact KR.out.2
     case kb=>simpa using HSU.out
     intro v2 M ON bN oN hat
     obtain⟨q2,c9,hv2,-⟩:=OwnF.arr elF_ok.len ON
     obtain⟨n2,hn2⟩:∃ m,m=(K++[(⟨ft,fa,fk,gq,gn,gc⟩:RawF)]).length:=⟨_,rfl⟩
     rw[← hn2] at hv2
     subst hv2
     have HN2:=zH hn2
     clear hn2
     have hlo:=fun j (e:(Value.slice q n c).ownBlock=some j)=>(OWU.out.lt j e).1
     have SBM:=zH (SBU.out.outs oN (fun e=>by have:=hlo _ e;omega) (fun e=>by have:=hlo _ e;omega) (fun j e=>.inr (by have:=hlo _ e;have:=HGW.out;omega)))
     have m2:=SBM.out.box.c 2 _ rfl
     have ml:=SBM.out.box.lt
     have mf:=SBM.out.box.fz
     obtain⟨M3,hM3⟩:∃ V0,V0=M.setCell ⟨gs,2,none⟩ (.slice q2 n2 c9):=⟨_,rfl⟩
     have o3:Out (fun j=>j=gs) M M3:=by rw[hM3];exact out_p _ _ _ _
     have SB3:=zH (show SB w M3 p gs gr d vi (.slice q2 n2 c9) (.slice none 0 0) (.slice none 0 0) by
      obtain⟨s1,s2,s3⟩:=SBM.out.set (by omega) HGW.out 2 (by omega) (.slice q2 n2 c9)
      rw[← hM3] at s1 s2 s3
      exact⟨s1,s2,s3⟩)
     have OW3:=zH (ON.kept o3 (fun j (hj:j=gs) e=>by have:=(ON.lt j e).1;omega))
     have oU3:Out (fun j=>j=gs∨bf≤j) Y M3:=((Out.of HBU.out).trans (oN.mono fun j _ e=>.inr (hlo j e))).trans (o3.mono fun j _ e=>.inl e)
     have HM3:=zH hM3
     clear hM3 hlo
     clear d0 d1 d2 d3 kl c2 cl
     have AF:=zH (AYF.out.mapo (fun f=>(L,cc++[f])) (Q':=fun (x:List It × List Fr)=>Part elI M3 gs bf x.1 vi∧LsO elF M3 bf (.slice q2 n2 c9) x.2∧x.2.length≤4) (f':=fun x=>selN z orr d x.1 x.2) oU3 (fun j hj=>by omega) (fun f h=>⟨Part.outs elI_ok (Part.outs elI_ok PTX.out OXY.out (fun j (hj:j=p)=>.inl (by omega))) oU3 (fun j hj=>by omega),from_grown (Rel.outs elF_ok RELX.out OXY.out (fun j (hj:j=p) _=>by omega)) (fun k e=>(OWX.out.lt k e).2) h.1 HWX.out OXY.out.size HBU.out ON oN (by rcases hat with h | h;exact .inl h;exact .inr (by simpa using h)) o3 hgb,by have h1:=h.2;have h2:=HC4.out;simp;omega⟩) (fun _ _ _=>rfl))
     have HBM:=zH (Nat.le_trans HBF.out oU3.size)
     have HLT:=zH (show rleft M3 p<rleft W p by
      have hpY:p<Y.heap.size:=by have h:=SBY.out.box.lt;omega
      rw[rleft_on (oU3.block p hpY (by omega)),HLW.out]
      have:=HLY2.out
      simp only[List.length_cons]
      omega)
     clear ON bN oN hat o3 oU3
     go_wp2_with fail
     go_roundw
     case rel =>
      rw[← HM3.out]
      exact⟨q2,n2,c9,HBM.out,SB3.out,AF.out⟩
     case measure =>
      rw[← HM3.out]
      exact HLT.out
    ·have HW:=zH WN1
     have HW2:=zH WN2
     have HAL:=zH AL
     clear WN1 WN2 AL hA
     go_wp2_with fail
     refine HW.out.mono ?_
     rintro e1 V1 ⟨rfl,hb1⟩
     have W3:=zH (HW2.out V1 hb1)
     have HB1:=zH hb1
     clear hb1
     go_wp2_with fail
     refine W3.out.mono ?_
     rintro e1 V ⟨rfl,hb2⟩
     have hb:=HB1.out.trans (hb2.mono HB1.out.size)
     have SBV:=zH (SBW.out.below hb)
     have HBV:=zH (Nat.le_trans HBW2.out hb.size)
     have AV:=zH (HAL.out.below hb (Q':=(fun (x:List It × List Fr)=>Part elI V gs bf x.1 vi∧LsO elF V bf (.slice q n c) x.2∧x.2.length≤4)) (fun x h=>⟨Part.outs elI_ok h.1 (Out.of (S:=fun _=>False) hb) (fun _ h=>h.elim),h.2.1.outs elF_ok (Out.of (S:=fun _=>False) hb) (fun _ h _=>h.elim),h.2.2⟩))
     clear hb hb2
     go_wp2_with fail
     go_meet
     exact⟨q,n,c,HBV.out,SBV.out,AV.out⟩
  case rest =>
   obtain⟨q,n,c,hbW,hSB,hA⟩:=hcut
   obtain⟨W9,hW9⟩:∃ W,W=wc:=⟨_,rfl⟩
   rw[← hW9] at hbW hSB hA ⊢
   have SB9:=zH hSB.out
   have HB9:=zH hbW
   have A9:=zH (hA.out.mapo (S:=fun _=>False) (fun x=>(x.1,x.2,([]:List Fr))) (Q':=fun (x:List It × List Fr × List Fr)=>Part elI W9 gs bf x.1 vi∧LsO elF W9 bf (.slice q n c) (x.2.1++x.2.2)∧x.2.1.length≤4∧x.2.2.length≤2∧0=x.2.2.length) (f':=fun x=>selO z orr d x.1 x.2.1 x.2.2) (Out.of (Below.refl _ _)) (fun _ h=>h.elim) (fun x h=>⟨h.1,by rw[List.append_nil];exact h.2.1,h.2.2,by simp,rfl⟩) (fun _ _ _=>rfl))
   clear hW9 hbW hSB hA
   go_upto_block 4 with fail
   go_cut [10] (fun _ wc=>∃ (q:Option Addr) (n c:Nat),bf≤wc.heap.size∧Hid (SB w wc p gs gr d vi (.slice q n c) (.slice none 0 0) (.slice none 0 0))∧Hid (AltP wc p z T k (fun (x:List It × List Fr)=>Part elI wc gs bf x.1 vi∧LsO elF wc bf (.slice q n c) x.2) (fun x=>selF z orr d x.1 x.2) res))
   case first =>
    go_wp2_with fail
    go_loopw [10] (fun v10 wr=>∃ (m:Nat) (q:Option Addr) (n c:Nat),v10=.int .i64 (m:Int)∧m≤3∧bf≤wr.heap.size∧Hid (SB w wr p gs gr d vi (.slice q n c) (.slice none 0 0) (.slice none 0 0))∧Hid (AltP wr p z T k (fun (x:List It × List Fr × List Fr)=>Part elI wr gs bf x.1 vi∧LsO elF wr bf (.slice q n c) (x.2.1++x.2.2)∧x.2.1.length≤4∧x.2.2.length≤2∧m=x.2.2.length) (fun x=>selO z orr d x.1 x.2.1 x.2.2) res)) (fun _ wr=>rleft wr p)
    case atStart=>exact⟨0,q,n,c,by go_num,by omega,HB9.out,SB9.out,A9.out⟩
    case round =>
     clear A9 SB9 HB9
     obtain⟨m,q,n,c,rfl,hm3,hbW,hSB,hA⟩:=hrel
     obtain⟨W,hW⟩:∃ W,W=wr:=⟨_,rfl⟩
     rw[← hW] at hSB hA ⊢
     have SBW:=zH hSB.out
     have HBW2:=zH (show bf≤W.heap.size by rw[hW];exact hbW)
     clear hW hSB hbW
     rcases AltP.outer hK (c:=fun x:List It × List Fr × List Fr=>x.2.2) (g:=fun x o2=>selF z orr d x.1 (x.2.1++o2)) hA.out with ⟨⟨L,cc,oo⟩,t,l,hR,hc,⟨hP,hL,h4,h5,h6⟩,hq⟩ |⟨⟨L,cc,oo⟩,t,l,hR,hc0,hc,⟨hP,hL,h4,h5,h6⟩,hq⟩ |⟨WN1,WN2,AL⟩
     ·
      obtain⟨K,k1,k2,k3⟩:=hL.own
      obtain⟨q9,c0,e9,-⟩:=OwnF.arr elF_ok.len k1
      have hnk:n=K.length:=by simp only[Value.slice.injEq] at e9;exact e9.2.1
      have HNN:=zH hnk
      have HC4:=zH (And.intro h4 (And.intro h5 h6))
      have HN9:=zH (show K.length≤8 by have h1:=k2;rw[List.length_append] at h1;have h2:=h4;have h3:=h5;dsimp only at h1 h2 h3;omega)
      have HLW:=zH hR.left
      have OWW:=zH k1
      have RELW:=zH (show Rel elF W bf (.slice q n c) K (cc++oo) from ⟨k2,k3⟩)
      have PTW:=zH hP
      have HPR:=zH hR
      have HHC:=zH hc
      obtain⟨GK,hGK⟩:∃ G:Unit→Fr→Rd Sel,G=fun _ f r=>(need z kwOn r fun r3=>(orr r3).map fun y=>[y]).bind fun xs r=>selO z orr d L cc (oo++[{ f with on:=xs }]) r:=⟨_,rfl⟩
      have HQ:=zH (show need z kwJoin l (fun l=>(bTable z 1 oo.length 2 l).bind (GK ()))=res by rw[hGK];exact hq)
      have HGK:=zH hGK
      have WS:=zH (rword_yes p z k T t l kwLeft W HPR.out HHC.out)
      clear hR hc hP hL h4 h5 h6 hq k1 k2 k3 e9 hnk hGK hA
      go_wp2_with fail
      refine WS.out.mono ?_
      rintro e1 X0 ⟨rfl,hR1,hO0⟩
      have MU:=zH (AltP.mustWL (α:=Unit) (Q:=fun _=>True) (s:=kwJoin) (by decide) (f:=fun _ l=>(bTable z 1 oo.length 2 l).bind (GK ())) (.inl ⟨(),l,hR1,trivial,HQ.out⟩))
      have HO0:=zH hO0
      have HL1:=zH hR1.left
      clear hO0 hR1 WS
      go_wp2_with fail
      refine MU.out.mono ?_
      rintro e6 X1 ⟨hlf0,rfl,hO6,hA6⟩
      have hO1:=HO0.out.trans hO6
      have SBX:=zH (SBW.out.read hO1 (by omega) (by omega))
      have OWX:=zH (OWW.out.kept hO1 (fun j (hj:j=p) e=>by have:=(OWW.out.lt j e).1;omega))
      have RELX:=zH (Rel.outs elF_ok RELW.out hO1 (fun j (hj:j=p) _=>by omega))
      have PTX:=zH (Part.outs elI_ok PTW.out hO1 (fun j (hj:j=p)=>.inl (by omega)))
      have HWX:=zH (Nat.le_trans HBW2.out hO1.size)
      have HLX:=zH (show rleft X1 p≤l.length+1 by rw[← HL1.out];exact hlf0)
      have hb4:decide ((2:Int)≤(m:Int))=decide (oo.length=2):=by
       have h1:=HC4.out.2.1
       have h2:=HC4.out.2.2
       exact decide_eq_decide.2 ⟨fun h=>by omega,fun h=>by omega⟩
      have C3:=zH (AltP.callL (bTable_shr z 1 oo.length 2).keep (Pr:=fun _=>oo.length≠2) (fun l y r h=>bTable_room h) (g:=GK) hA6 (fun res0 s=>rtable_any 1 oo.length 2 (decide ((2:Int)≤(m:Int))) hb4 res0 X1 s))
      clear hO1 hO6 hA6 hb4 hlf0 MU
      go_wp2_with fail
      refine C3.out.mono ?_
      rintro e2 X ⟨hlf,hO2,v,rfl,⟨⟨ft,fa,fk,fq,fn,fc⟩,rfl⟩,hA2⟩
      obtain⟨Y0,hY⟩:∃ V0,V0=X.alloc (.cells #[.string ft,.string fa,.int .i64 fk,.slice fq fn fc] 40):=⟨_,rfl⟩
      have bY:Below X.heap.size X Y0:=by rw[hY];exact ext_alloc (ext_refl _) _
      have kY:BkA Y0 X.heap.size (RawF.cells ⟨ft,fa,fk,fq,fn,fc⟩):=by rw[hY];exact BkA.new X (RawF.cells ⟨ft,fa,fk,fq,fn,fc⟩) 40
      have oY:Out (fun j=>j=p) X1 Y0:=hO2.trans (Out.of bY)
      have AY0:=zH (hA2.below bY (Q':=fun xy:Unit × Fr=>elF.rel Y0 (fun g=>X1.heap.size≤g) xy.2 ⟨ft,fa,fk,fq,fn,fc⟩∧oo.length≠2) (fun xy h=>⟨by
       obtain⟨r',hv,hr⟩:=h.2.1
       obtain⟨t',a',k',q',n',c'⟩:=r'
       simp only[Ending.returned.injEq,Value.agg.injEq,Array.mk.injEq,List.cons.injEq,Value.string.injEq,Value.int.injEq,Value.slice.injEq,and_true,true_and] at hv
       obtain⟨rfl,rfl,rfl,rfl,rfl,rfl⟩:=hv
       exact elF_ok.on bY.size (fun g _ hl=>bY.block g hl) (fun g hg _=>hg) _ _ hr,h.2.2⟩))
      have HY:=zH hY
      have KB0:=zH kY
      have OY0:=zH oY
      have SBY0:=zH ((SBX.out.read hO2 (by omega) (by omega)).below bY)
      have HPX:=zH (show p<X.heap.size by have h:=KB0.out.lt;have h2:=SBX.out.box.lt;have h3:=hO2.size;omega)
      have HLY:=zH (show rleft Y0 p≤l.length+1 by rw[rleft_on (bY.block p HPX.out)];exact Nat.le_trans hlf HLX.out)
      have hgX:gs<X.heap.size:=Nat.lt_of_lt_of_le SBX.out.box.lt hO2.size
      have hbX:bf≤X.heap.size:=Nat.le_trans HWX.out hO2.size
      have HXG:=zH hO2.size
      clear hlf hO2 hA2 hY bY kY oY C3
      go_upto_region 29 with fail
      rw[← HY.out]
      clear HY
      obtain⟨gb,hgbb⟩:∃ g,g=X.heap.size:=⟨_,rfl⟩
      rw[← hgbb] at KB0 hgX hbX HXG ⊢
      clear hgbb
      have C4:=zH (AltP.callL (Q:=fun xy:Unit × Fr=>elF.rel Y0 (fun g=>X1.heap.size≤g) xy.2 ⟨ft,fa,fk,fq,fn,fc⟩∧oo.length≠2) (one:=fun r=>need z kwOn r fun r3=>(orr r3).map fun y=>[y]) (need_shr (map_keep hK.keep)).keep (Pr:=fun _=>True) (fun _ _ _ _=>trivial) (g:=fun xy xs r=>selO z orr d L cc (oo++[{ xy.2 with on:=xs }]) r) (by have h:=AY0.out;rw[HGK.out] at h;exact h) (fun res0 s=>ron_any HC.out res0 Y0 s))
      go_wp2_with fail
      refine C4.out.mono ?_
      rintro e5 X2 ⟨hlf,hO5,v5,rfl,⟨gq,gn,gc,rfl⟩,hA5⟩
      have KB2:=zH (KB0.out.outs hO5 (by omega))
      have y3:=KB2.out.c 3 _ rfl
      have yl:=KB2.out.lt
      have yf:=KB2.out.fz
      obtain⟨Y,hY⟩:∃ V0,V0=X2.setCell ⟨gb,3,none⟩ (.slice gq gn gc):=⟨_,rfl⟩
      have oS:Out (fun j=>j=gb) X2 Y:=by rw[hY];exact out_p _ _ _ _
      have KB:Hid (BkA Y gb (RawF.cells ⟨ft,fa,fk,gq,gn,gc⟩)):=zH (by rw[hY];exact KB2.out.set1 3 (by simp) _)
      have hgY0:=KB0.out.lt
      have oYY:Out (fun j=>j=p∨j=gb) Y0 Y:=(hO5.mono fun j _ h=>.inl h).trans (oS.mono fun j _ h=>.inr h)
      have OXY:=zH (Out.down ((OY0.out.up (N:=X1.heap.size)).trans (oYY.mono fun j _ h=>by rcases h with h | h;exact .inl h;exact .inr (by have:=HXG.out;omega))))
      have SBY:=zH (SBY0.out.outs oYY (by omega) (by omega) (fun j h=>by rcases h with h | h;exact .inl h;exact .inr (by have:=HGW.out;omega)))
      have HLY2:=zH (show rleft Y p≤l.length+1 by rw[rleft_on (oS.block p (Nat.lt_of_lt_of_le (Nat.lt_trans (by omega) hgY0) hO5.size) (by omega))];exact Nat.le_trans hlf HLY.out)
      have OWY:=zH (OWX.out.kept OXY.out (fun j (hj:j=p) e=>by have:=(OWX.out.lt j e).1;omega))
      have HBF:=zH (Nat.le_trans HWX.out OXY.out.size)
      have AYF:=zH (show AltP Y p z T k (fun f=>elF.rel Y (fun g=>X1.heap.size≤g) f ⟨ft,fa,fk,gq,gn,gc⟩∧oo.length≠2) (fun f=>selO z orr d L cc (oo++[f])) res from hA5.mapo (fun xy=>{ xy.1.2 with on:=xy.2 }) oS (fun j (hj:j=gb)=>by omega) (fun xy h=>by
       obtain⟨⟨⟨r1,r2,r3,-⟩,h4⟩,⟨q6,c6,e6,l6,x6⟩,-⟩:=h
       simp only[Value.slice.injEq] at e6
       obtain⟨rfl,rfl,rfl⟩:=e6
       refine⟨⟨r1,r2,r3,rfl,l6,?_⟩,h4⟩
       exact ExLP.on oS.size (fun g hg hl=>oS.block g hl (fun (e:g=gb)=>by have:=hg;omega)) (fun g hg _=>Nat.le_trans OY0.out.size hg) _ _ _ x6) (fun _ _ _=>rfl))
      have HYY:=zH hY
      clear hlf hO5 hA5 hY oS oYY hgY0 C4 KB0 AY0 SBY0 HLY
      go_upto_region 30 with fail
      rw[← HYY.out]
      clear HYY y3 yl yf KB2
      have c2:=SBY.out.box.c 2 _ rfl
      have cl:=SBY.out.box.lt
      obtain⟨d0,d1,d2,d3⟩:=KB.out.c4_ rfl
      have kl:=KB.out.lt
      have b1:Below Y.heap.size Y (Y.alloc (.cells #[.string ft,.string fa,.int .i64 fk,.slice gq gn gc] 40)):=ext_alloc (ext_refl _) _
      have HBU:=zH b1
      have OWU:=zH (OWY.out.later b1)
      have SBU:=zH (SBY.out.below b1)
      have hsU:bf≤(Y.alloc (.cells #[.string ft,.string fa,.int .i64 fk,.slice gq gn gc] 40)).heap.size:=Nat.le_trans HBF.out b1.size
      have KR:=zH (roomF HN9.out)
      have HSU:=zH hsU
      clear b1 hsU
      go_wp2_with (at_builtin;go_must (refine wp_append_at rfl _ _ 35 40 rfl Tryz.underlying35 _ 64 Tryz.info_from rfl (by omega) elF_ok.len RawF.one bf _ K rfl OWU.out _ 1 1 [⟨ft,fa,fk,gq,gn,gc⟩] rfl rfl 0 _ (one_block elF_ok.len 40 #[.string ft,.string fa,.int .i64 fk,.slice gq gn gc] ⟨ft,fa,fk,gq,gn,gc⟩ rfl _ rfl) ?kr ?ka ?kb ?_))
      case kr=>exact KR.out.1
      case ka=>exact KR.out.2
      case kb=>simpa using HSU.out
      intro v2 M ON bN oN hat
      obtain⟨q2,c9,hv2,-⟩:=OwnF.arr elF_ok.len ON
      obtain⟨n2,hn2⟩:∃ m,m=(K++[(⟨ft,fa,fk,gq,gn,gc⟩:RawF)]).length:=⟨_,rfl⟩
      rw[← hn2] at hv2
      subst hv2
      have HN2:=zH hn2
      clear hn2
      have hlo:=fun j (e:(Value.slice q n c).ownBlock=some j)=>(OWU.out.lt j e).1
      have SBM:=zH (SBU.out.outs oN (fun e=>by have:=hlo _ e;omega) (fun e=>by have:=hlo _ e;omega) (fun j e=>.inr (by have:=hlo _ e;have:=HGW.out;omega)))
      have m2:=SBM.out.box.c 2 _ rfl
      have ml:=SBM.out.box.lt
      have mf:=SBM.out.box.fz
      obtain⟨M3,hM3⟩:∃ V0,V0=M.setCell ⟨gs,2,none⟩ (.slice q2 n2 c9):=⟨_,rfl⟩
      have o3:Out (fun j=>j=gs) M M3:=by rw[hM3];exact out_p _ _ _ _
      have SB3:=zH (show SB w M3 p gs gr d vi (.slice q2 n2 c9) (.slice none 0 0) (.slice none 0 0) by
       obtain⟨s1,s2,s3⟩:=SBM.out.set (by omega) HGW.out 2 (by omega) (.slice q2 n2 c9)
       rw[← hM3] at s1 s2 s3
       exact⟨s1,s2,s3⟩)
      have OW3:=zH (ON.kept o3 (fun j (hj:j=gs) e=>by have:=(ON.lt j e).1;omega))
      have oU3:Out (fun j=>j=gs∨bf≤j) Y M3:=((Out.of HBU.out).trans (oN.mono fun j _ e=>.inr (hlo j e))).trans (o3.mono fun j _ e=>.inl e)
      have HM3:=zH hM3
      clear hM3 hlo
      go_upto_region 31 with fail
      rw[← HM3.out]
      clear HM3 m2 ml mf d0 d1 d2 d3 kl c2 cl
      have AF:=zH (AYF.out.mapo (fun f=>(L,cc,oo++[f])) (Q':=fun (x:List It × List Fr × List Fr)=>Part elI M3 gs bf x.1 vi∧LsO elF M3 bf (.slice q2 n2 c9) (x.2.1++x.2.2)∧x.2.1.length≤4∧x.2.2.length≤2∧m+1=x.2.2.length) (f':=fun x=>selO z orr d x.1 x.2.1 x.2.2) oU3 (fun j hj=>by omega) (fun f h=>by
       have g1:=from_grown (Rel.outs elF_ok RELX.out OXY.out (fun j (hj:j=p) _=>by omega)) (fun k e=>(OWX.out.lt k e).2) h.1 HWX.out OXY.out.size HBU.out ON oN (by rcases hat with h | h;exact .inl h;exact .inr (by simpa using h)) o3 hgb
       rw[List.append_assoc] at g1
       have h1:=HC4.out.1
       have h2:=HC4.out.2.1
       have h3:=HC4.out.2.2
       have h4:=h.2
       refine⟨Part.outs elI_ok (Part.outs elI_ok PTX.out OXY.out (fun j (hj:j=p)=>.inl (by omega))) oU3 (fun j hj=>by omega),g1,h1,?_,?_⟩
       ·rw[List.length_append];simp;omega
       ·rw[List.length_append];simp;omega) (fun _ _ _=>rfl))
      have HBM:=zH (Nat.le_trans HBF.out oU3.size)
      have HLT:=zH (show rleft M3 p<rleft W p by
       have hpY:p<Y.heap.size:=by have h:=SBY.out.box.lt;omega
       rw[rleft_on (oU3.block p hpY (by omega)),HLW.out]
       have:=HLY2.out
       simp only[List.length_cons]
       omega)
      have hm2:m≤2:=by have h2:=HC4.out.2.1;have h3:=HC4.out.2.2;omega
      have hw1:wrap64 ((m:Int)+1)=((m+1:Nat):Int):=by unfold wrap64;omega
      clear ON bN oN hat o3 oU3
      go_wp2_with fail
      go_roundw
      case rel=>exact⟨m+1,q2,n2,c9,rfl,by omega,HBM.out,SB3.out,AF.out⟩
      case measure=>exact HLT.out
     ·
      obtain⟨K,k1,k2,k3⟩:=hL.own
      obtain⟨q9,c0,e9,-⟩:=OwnF.arr elF_ok.len k1
      have hnk:n=K.length:=by simp only[Value.slice.injEq] at e9;exact e9.2.1
      have HNN:=zH hnk
      have HC4:=zH (And.intro h4 (And.intro h5 h6))
      have HN9:=zH (show K.length≤8 by have h1:=k2;rw[List.length_append] at h1;have h2:=h4;have h3:=h5;dsimp only at h1 h2 h3;omega)
      have HLW:=zH hR.left
      have OWW:=zH k1
      have RELW:=zH (show Rel elF W bf (.slice q n c) K (cc++oo) from ⟨k2,k3⟩)
      have PTW:=zH hP
      have HPR:=zH hR
      have HHC:=zH hc
      have HH0:=zH hc0
      obtain⟨GK,hGK⟩:∃ G:Unit→Fr→Rd Sel,G=fun _ f r=>(need z kwOn r fun r3=>(orr r3).map fun y=>[y]).bind fun xs r=>selO z orr d L cc (oo++[{ f with on:=xs }]) r:=⟨_,rfl⟩
      have HQ:=zH (show need z kwJoin l (fun l=>(bTable z 2 oo.length 2 l).bind (GK ()))=res by rw[hGK];exact hq)
      have HGK:=zH hGK
      have WN:=zH (rword_no p z k T (t :: l) kwLeft W HPR.out HH0.out)
      clear hR hc hc0 hP hL h4 h5 h6 hq k1 k2 k3 e9 hnk hGK hA
      go_wp2_with fail
      refine WN.out.mono ?_
      rintro e1 V1 ⟨rfl,hb1⟩
      have WS:=zH (rword_yes p z k T t l kwSemi V1 (HPR.out.below hb1) HHC.out)
      have OB1:=zH (Out.of (S:=fun j=>j=p) hb1)
      clear hb1 WN
      go_wp2_with fail
      refine WS.out.mono ?_
      rintro e1 X0 ⟨rfl,hR1,hOX⟩
      have hO0:=OB1.out.trans hOX
      clear hOX
      have MU:=zH (AltP.mustWL (α:=Unit) (Q:=fun _=>True) (s:=kwJoin) (by decide) (f:=fun _ l=>(bTable z 2 oo.length 2 l).bind (GK ())) (.inl ⟨(),l,hR1,trivial,HQ.out⟩))
      have HO0:=zH hO0
      have HL1:=zH hR1.left
      clear hO0 hR1 WS
      go_wp2_with fail
      refine MU.out.mono ?_
      rintro e6 X1 ⟨hlf0,rfl,hO6,hA6⟩
      have hO1:=HO0.out.trans hO6
      have SBX:=zH (SBW.out.read hO1 (by omega) (by omega))
      have OWX:=zH (OWW.out.kept hO1 (fun j (hj:j=p) e=>by have:=(OWW.out.lt j e).1;omega))
      have RELX:=zH (Rel.outs elF_ok RELW.out hO1 (fun j (hj:j=p) _=>by omega))
      have PTX:=zH (Part.outs elI_ok PTW.out hO1 (fun j (hj:j=p)=>.inl (by omega)))
      have HWX:=zH (Nat.le_trans HBW2.out hO1.size)
      have HLX:=zH (show rleft X1 p≤l.length+1 by rw[← HL1.out];exact hlf0)
      have hb4:decide ((2:Int)≤(m:Int))=decide (oo.length=2):=by
       have h1:=HC4.out.2.1
       have h2:=HC4.out.2.2
       exact decide_eq_decide.2 ⟨fun h=>by omega,fun h=>by omega⟩
      have C3:=zH (AltP.callL (bTable_shr z 2 oo.length 2).keep (Pr:=fun _=>oo.length≠2) (fun l y r h=>bTable_room h) (g:=GK) hA6 (fun res0 s=>rtable_any 2 oo.length 2 (decide ((2:Int)≤(m:Int))) hb4 res0 X1 s))
      clear hO1 hO6 hA6 hb4 hlf0 MU
      go_wp2_with fail
      refine C3.out.mono ?_
      rintro e2 X ⟨hlf,hO2,v,rfl,⟨⟨ft,fa,fk,fq,fn,fc⟩,rfl⟩,hA2⟩
      obtain⟨Y0,hY⟩:∃ V0,V0=X.alloc (.cells #[.string ft,.string fa,.int .i64 fk,.slice fq fn fc] 40):=⟨_,rfl⟩
      have bY:Below X.heap.size X Y0:=by rw[hY];exact ext_alloc (ext_refl _) _
      have kY:BkA Y0 X.heap.size (RawF.cells ⟨ft,fa,fk,fq,fn,fc⟩):=by rw[hY];exact BkA.new X (RawF.cells ⟨ft,fa,fk,fq,fn,fc⟩) 40
      have oY:Out (fun j=>j=p) X1 Y0:=hO2.trans (Out.of bY)
      have AY0:=zH (hA2.below bY (Q':=fun xy:Unit × Fr=>elF.rel Y0 (fun g=>X1.heap.size≤g) xy.2 ⟨ft,fa,fk,fq,fn,fc⟩∧oo.length≠2) (fun xy h=>⟨by
       obtain⟨r',hv,hr⟩:=h.2.1
       obtain⟨t',a',k',q',n',c'⟩:=r'
       simp only[Ending.returned.injEq,Value.agg.injEq,Array.mk.injEq,List.cons.injEq,Value.string.injEq,Value.int.injEq,Value.slice.injEq,and_true,true_and] at hv
       obtain⟨rfl,rfl,rfl,rfl,rfl,rfl⟩:=hv
       exact elF_ok.on bY.size (fun g _ hl=>bY.block g hl) (fun g hg _=>hg) _ _ hr,h.2.2⟩))
      have HY:=zH hY
      have KB0:=zH kY
      have OY0:=zH oY
      have SBY0:=zH ((SBX.out.read hO2 (by omega) (by omega)).below bY)
      have HPX:=zH (show p<X.heap.size by have h:=KB0.out.lt;have h2:=SBX.out.box.lt;have h3:=hO2.size;omega)
      have HLY:=zH (show rleft Y0 p≤l.length+1 by rw[rleft_on (bY.block p HPX.out)];exact Nat.le_trans hlf HLX.out)
      have hgX:gs<X.heap.size:=Nat.lt_of_lt_of_le SBX.out.box.lt hO2.size
      have hbX:bf≤X.heap.size:=Nat.le_trans HWX.out hO2.size
      have HXG:=zH hO2.size
      clear hlf hO2 hA2 hY bY kY oY C3
      go_upto_region 29 with fail
      rw[← HY.out]
      clear HY
      obtain⟨gb,hgbb⟩:∃ g,g=X.heap.size:=⟨_,rfl⟩
      rw[← hgbb] at KB0 hgX hbX HXG ⊢
      clear hgbb
      have C4:=zH (AltP.callL (Q:=fun xy:Unit × Fr=>elF.rel Y0 (fun g=>X1.heap.size≤g) xy.2 ⟨ft,fa,fk,fq,fn,fc⟩∧oo.length≠2) (one:=fun r=>need z kwOn r fun r3=>(orr r3).map fun y=>[y]) (need_shr (map_keep hK.keep)).keep (Pr:=fun _=>True) (fun _ _ _ _=>trivial) (g:=fun xy xs r=>selO z orr d L cc (oo++[{ xy.2 with on:=xs }]) r) (by have h:=AY0.out;rw[HGK.out] at h;exact h) (fun res0 s=>ron_any HC.out res0 Y0 s))
      go_wp2_with fail
      refine C4.out.mono ?_
      rintro e5 X2 ⟨hlf,hO5,v5,rfl,⟨gq,gn,gc,rfl⟩,hA5⟩
      have KB2:=zH (KB0.out.outs hO5 (by omega))
      have y3:=KB2.out.c 3 _ rfl
      have yl:=KB2.out.lt
      have yf:=KB2.out.fz
      obtain⟨Y,hY⟩:∃ V0,V0=X2.setCell ⟨gb,3,none⟩ (.slice gq gn gc):=⟨_,rfl⟩
      have oS:Out (fun j=>j=gb) X2 Y:=by rw[hY];exact out_p _ _ _ _
      have KB:Hid (BkA Y gb (RawF.cells ⟨ft,fa,fk,gq,gn,gc⟩)):=zH (by rw[hY];exact KB2.out.set1 3 (by simp) _)
      have hgY0:=KB0.out.lt
      have oYY:Out (fun j=>j=p∨j=gb) Y0 Y:=(hO5.mono fun j _ h=>.inl h).trans (oS.mono fun j _ h=>.inr h)
      have OXY:=zH (Out.down ((OY0.out.up (N:=X1.heap.size)).trans (oYY.mono fun j _ h=>by rcases h with h | h;exact .inl h;exact .inr (by have:=HXG.out;omega))))
      have SBY:=zH (SBY0.out.outs oYY (by omega) (by omega) (fun j h=>by rcases h with h | h;exact .inl h;exact .inr (by have:=HGW.out;omega)))
      have HLY2:=zH (show rleft Y p≤l.length+1 by rw[rleft_on (oS.block p (Nat.lt_of_lt_of_le (Nat.lt_trans (by omega) hgY0) hO5.size) (by omega))];exact Nat.le_trans hlf HLY.out)
      have OWY:=zH (OWX.out.kept OXY.out (fun j (hj:j=p) e=>by have:=(OWX.out.lt j e).1;omega))
      have HBF:=zH (Nat.le_trans HWX.out OXY.out.size)
      have AYF:=zH (show AltP Y p z T k (fun f=>elF.rel Y (fun g=>X1.heap.size≤g) f ⟨ft,fa,fk,gq,gn,gc⟩∧oo.length≠2) (fun f=>selO z orr d L cc (oo++[f])) res from hA5.mapo (fun xy=>{ xy.1.2 with on:=xy.2 }) oS (fun j (hj:j=gb)=>by omega) (fun xy h=>by
       obtain⟨⟨⟨r1,r2,r3,-⟩,h4⟩,⟨q6,c6,e6,l6,x6⟩,-⟩:=h
       simp only[Value.slice.injEq] at e6
       obtain⟨rfl,rfl,rfl⟩:=e6
       refine⟨⟨r1,r2,r3,rfl,l6,?_⟩,h4⟩
       exact ExLP.on oS.size (fun g hg hl=>oS.block g hl (fun (e:g=gb)=>by have:=hg;omega)) (fun g hg _=>Nat.le_trans OY0.out.size hg) _ _ _ x6) (fun _ _ _=>rfl))
      have HYY:=zH hY
      clear hlf hO5 hA5 hY oS oYY hgY0 C4 KB0 AY0 SBY0 HLY
      go_upto_region 30 with fail
      rw[← HYY.out]
      clear HYY y3 yl yf KB2
      have c2:=SBY.out.box.c 2 _ rfl
      have cl:=SBY.out.box.lt
      obtain⟨d0,d1,d2,d3⟩:=KB.out.c4_ rfl
      have kl:=KB.out.lt
      have b1:Below Y.heap.size Y (Y.alloc (.cells #[.string ft,.string fa,.int .i64 fk,.slice gq gn gc] 40)):=ext_alloc (ext_refl _) _
      have HBU:=zH b1
      have OWU:=zH (OWY.out.later b1)
      have SBU:=zH (SBY.out.below b1)
      have hsU:bf≤(Y.alloc (.cells #[.string ft,.string fa,.int .i64 fk,.slice gq gn gc] 40)).heap.size:=Nat.le_trans HBF.out b1.size
      have KR:=zH (roomF HN9.out)
      have HSU:=zH hsU
      clear b1 hsU
      go_wp2_with (at_builtin;go_must (refine wp_append_at rfl _ _ 35 40 rfl Tryz.underlying35 _ 64 Tryz.info_from rfl (by omega) elF_ok.len RawF.one bf _ K rfl OWU.out _ 1 1 [⟨ft,fa,fk,gq,gn,gc⟩] rfl rfl 0 _ (one_block elF_ok.len 40 #[.string ft,.string fa,.int .i64 fk,.slice gq gn gc] ⟨ft,fa,fk,gq,gn,gc⟩ rfl _ rfl) ?kr ?ka ?kb ?_))
      case kr=>exact KR.out.1
      case ka=>exact KR.out.2
      case kb=>simpa using HSU.out
      intro v2 M ON bN oN hat
      obtain⟨q2,c9,hv2,-⟩:=OwnF.arr elF_ok.len ON
      obtain⟨n2,hn2⟩:∃ m,m=(K++[(⟨ft,fa,fk,gq,gn,gc⟩:RawF)]).length:=⟨_,rfl⟩
      rw[← hn2] at hv2
      subst hv2
      have HN2:=zH hn2
      clear hn2
      have hlo:=fun j (e:(Value.slice q n c).ownBlock=some j)=>(OWU.out.lt j e).1
      have SBM:=zH (SBU.out.outs oN (fun e=>by have:=hlo _ e;omega) (fun e=>by have:=hlo _ e;omega) (fun j e=>.inr (by have:=hlo _ e;have:=HGW.out;omega)))
      have m2:=SBM.out.box.c 2 _ rfl
      have ml:=SBM.out.box.lt
      have mf:=SBM.out.box.fz
      obtain⟨M3,hM3⟩:∃ V0,V0=M.setCell ⟨gs,2,none⟩ (.slice q2 n2 c9):=⟨_,rfl⟩
      have o3:Out (fun j=>j=gs) M M3:=by rw[hM3];exact out_p _ _ _ _
      have SB3:=zH (show SB w M3 p gs gr d vi (.slice q2 n2 c9) (.slice none 0 0) (.slice none 0 0) by
       obtain⟨s1,s2,s3⟩:=SBM.out.set (by omega) HGW.out 2 (by omega) (.slice q2 n2 c9)
       rw[← hM3] at s1 s2 s3
       exact⟨s1,s2,s3⟩)
      have OW3:=zH (ON.kept o3 (fun j (hj:j=gs) e=>by have:=(ON.lt j e).1;omega))
      have oU3:Out (fun j=>j=gs∨bf≤j) Y M3:=((Out.of HBU.out).trans (oN.mono fun j _ e=>.inr (hlo j e))).trans (o3.mono fun j _ e=>.inl e)
      have HM3:=zH hM3
      clear hM3 hlo
      go_upto_region 31 with fail
      rw[← HM3.out]
      clear HM3 m2 ml mf d0 d1 d2 d3 kl c2 cl
      have AF:=zH (AYF.out.mapo (fun f=>(L,cc,oo++[f])) (Q':=fun (x:List It × List Fr × List Fr)=>Part elI M3 gs bf x.1 vi∧LsO elF M3 bf (.slice q2 n2 c9) (x.2.1++x.2.2)∧x.2.1.length≤4∧x.2.2.length≤2∧m+1=x.2.2.length) (f':=fun x=>selO z orr d x.1 x.2.1 x.2.2) oU3 (fun j hj=>by omega) (fun f h=>by
       have g1:=from_grown (Rel.outs elF_ok RELX.out OXY.out (fun j (hj:j=p) _=>by omega)) (fun k e=>(OWX.out.lt k e).2) h.1 HWX.out OXY.out.size HBU.out ON oN (by rcases hat with h | h;exact .inl h;exact .inr (by simpa using h)) o3 hgb
       rw[List.append_assoc] at g1
       have h1:=HC4.out.1
       have h2:=HC4.out.2.1
       have h3:=HC4.out.2.2
       have h4:=h.2
       refine⟨Part.outs elI_ok (Part.outs elI_ok PTX.out OXY.out (fun j (hj:j=p)=>.inl (by omega))) oU3 (fun j hj=>by omega),g1,h1,?_,?_⟩
       ·rw[List.length_append];simp;omega
       ·rw[List.length_append];simp;omega) (fun _ _ _=>rfl))
      have HBM:=zH (Nat.le_trans HBF.out oU3.size)
      have HLT:=zH (show rleft M3 p<rleft W p by
       have hpY:p<Y.heap.size:=by have h:=SBY.out.box.lt;omega
       rw[rleft_on (oU3.block p hpY (by omega)),HLW.out]
       have:=HLY2.out
       simp only[List.length_cons]
       omega)
      have hm2:m≤2:=by have h2:=HC4.out.2.1;have h3:=HC4.out.2.2;omega
      have hw1:wrap64 ((m:Int)+1)=((m+1:Nat):Int):=by unfold wrap64;omega
      clear ON bN oN hat o3 oU3
      go_wp2_with fail
      go_roundw
      case rel=>exact⟨m+1,q2,n2,c9,rfl,by omega,HBM.out,SB3.out,AF.out⟩
      case measure=>exact HLT.out
     ·have HW:=zH WN1
      have HW2:=zH WN2
      have HAL:=zH AL
      clear WN1 WN2 AL hA
      go_wp2_with fail
      refine HW.out.mono ?_
      rintro e1 V1 ⟨rfl,hb1⟩
      have W3:=zH (HW2.out V1 hb1)
      have HB1:=zH hb1
      clear hb1
      go_wp2_with fail
      refine W3.out.mono ?_
      rintro e1 V ⟨rfl,hb2⟩
      have hb:=HB1.out.trans (hb2.mono HB1.out.size)
      have SBV:=zH (SBW.out.below hb)
      have HBV:=zH (Nat.le_trans HBW2.out hb.size)
      have AV:=zH (HAL.out.mapo (fun x=>(x.1,x.2.1++x.2.2)) (Q':=fun (x:List It × List Fr)=>Part elI V gs bf x.1 vi∧LsO elF V bf (.slice q n c) x.2) (f':=fun x=>selF z orr d x.1 x.2) (Out.of (S:=fun _=>False) hb) (fun _ h=>h.elim) (fun x h=>⟨Part.outs elI_ok h.1 (Out.of (S:=fun _=>False) hb) (fun _ h=>h.elim),h.2.1.outs elF_ok (Out.of (S:=fun _=>False) hb) (fun _ h _=>h.elim)⟩) (fun _ _ _=>rfl))
      clear hb hb2
      go_wp2_with fail
      go_meet
      exact⟨q,n,c,HBV.out,SBV.out,AV.out⟩
   case rest =>
    obtain⟨q,n,c,hbW,hSB,hA⟩:=hcut
    obtain⟨W,hW⟩:∃ W,W=wc:=⟨_,rfl⟩
    rw[← hW] at hbW hSB hA ⊢
    obtain⟨h0,hh0⟩:∃ b,b=W.heap.size:=⟨_,rfl⟩
    have hgh:gs<h0:=by rw[hh0];exact hSB.out.box.lt
    have SBW:=zH hSB.out
    have hA1:AltP W p z T k (fun (x:List It × List Fr)=>Part elI W gs h0 x.1 vi∧Part elF W gs h0 x.2 (.slice q n c)) (fun x l=>if hSees kwWhere l=true then (fun l=>(orr l).bind fun y=>selG z orr d x.1 x.2 [y]) l.tail else selG z orr d x.1 x.2 [] l) res:=hA.out.mapo (S:=fun _=>False) id (Out.of (Below.refl _ _)) (fun _ h=>h.elim) (fun x h=>⟨h.1.wide elI_ok (by rw[hh0];exact hbW),by rw[hh0];exact Part.ofL elF_ok hgb h.2⟩) (fun x l _=>congrFun (selF_eq z orr d x.1 x.2) l)
    obtain⟨b,hC⟩:=AltP.mayW (s:=kwWhere) (by decide) (f:=fun (x:List It × List Fr) l=>(orr l).bind fun y=>selG z orr d x.1 x.2 [y]) (g:=fun (x:List It × List Fr)=>selG z orr d x.1 x.2 []) hA1
    have CW:=zH hC
    have HH0:=zH hh0
    clear hW hbW hSB hA hA1 hC hh0
    go_wp2_with fail
    refine CW.out.mono ?_
    rintro e1 V ⟨rfl,hO1,hA2⟩
    have SBV:=zH (SBW.out.read hO1 (by omega) (by omega))
    have AV:=zH (hA2.outs (S:=fun _=>False) (Q':=fun (x:List It × List Fr)=>Part elI V gs h0 x.1 vi∧Part elF V gs h0 x.2 (.slice q n c)) (Out.of (Below.refl _ _)) (fun _ h=>h.elim) (fun x h=>⟨Part.outs elI_ok h.1 hO1 (fun j (hj:j=p)=>.inl (by omega)),Part.outs elF_ok h.2 hO1 (fun j (hj:j=p)=>.inl (by omega))⟩))
    have HV:=zH (show h0≤V.heap.size by rw[HH0.out];exact hO1.size)
    clear hO1 hA2 CW SBW
    go_upto_if 116 with fail
    go_cut [16] (fun _ wc=>∃ vw hi,ShS vw∧gs<hi∧hi≤wc.heap.size∧Hid (SB w wc p gs gr d vi (.slice q n c) vw (.slice none 0 0))∧Hid (AltP wc p z T k (fun (x:(List It × List Fr) × List Ex)=>Part elI wc gs hi x.1.1 vi∧Part elF wc gs hi x.1.2 (.slice q n c)∧PartX wc gs hi x.2 vw) (fun x=>selG z orr d x.1.1 x.1.2 x.2) res))
    case first =>
     cases b with
     | false =>
      have AW:=zH (AV.out.mapo (S:=fun _=>False) (fun x=>(x,([]:List Ex))) (Q':=fun (x:(List It × List Fr) × List Ex)=>Part elI V gs h0 x.1.1 vi∧Part elF V gs h0 x.1.2 (.slice q n c)∧PartX V gs h0 x.2 (.slice none 0 0)) (f':=fun x=>selG z orr d x.1.1 x.1.2 x.2) (Out.of (Below.refl _ _)) (fun _ h=>h.elim) (fun x h=>⟨h.1,h.2,PartX.nil _ _ _⟩) (fun x l _=>by simp))
      clear AV
      go_wp2_with fail
      go_meet
      exact⟨.slice none 0 0,h0,⟨_,_,_,rfl⟩,hgh,HV.out,SBV.out,AW.out⟩
     | true =>
      have CO:=zH (AltP.call (one:=orr) (g:=fun (x:List It × List Fr) y=>selG z orr d x.1 x.2 [y]) (show AltP V p z T k _ (fun (x:List It × List Fr) l=>(orr l).bind fun y=>selG z orr d x.1 x.2 [y]) res from by have h:=AV.out;simp only[if_true] at h;exact h) (fun res0 s=>HC.out res0 V s))
      clear AV
      go_wp2_with fail
      refine CO.out.mono ?_
      rintro e2 X ⟨hO2,v,rfl,⟨⟨hop,⟨hvk,hvn,hvs⟩,hrel,hcol,hn,hs,hq,hlen,hc⟩,rfl⟩,hA3⟩
      obtain⟨Y,hY⟩:∃ V0,V0=X.alloc (.cells #[.int .i64 hop,.int .i64 hvk,.int .i64 hvn,.string hvs,.int .i64 hrel,.int .i64 hcol,.int .i64 hn,.string hs,.slice hq hlen hc] 44):=⟨_,rfl⟩
      have bY:Below X.heap.size X Y:=by rw[hY];exact ext_alloc (ext_refl _) _
      have kY:BkA Y X.heap.size (RawE.cells ⟨hop,⟨hvk,hvn,hvs⟩,hrel,hcol,hn,hs,hq,hlen,hc⟩):=by rw[hY];exact BkA.new X (RawE.cells ⟨hop,⟨hvk,hvn,hvs⟩,hrel,hcol,hn,hs,hq,hlen,hc⟩) 44
      have HY:=zH hY
      have oY:=hO2.trans (Out.of bY)
      have SBY:=zH ((SBV.out.read hO2 (by omega) (by omega)).below bY)
      have q3:=SBY.out.box.c 3 _ rfl
      have ql:=SBY.out.box.lt
      have qf:=SBY.out.box.fz
      obtain⟨d0,d1,d2,d3,d4,d5,d6,d7,d8⟩:=kY.c9_ rfl
      have kl:=kY.lt
      obtain⟨U,hU⟩:∃ V0,V0=Y.setCell ⟨gs,3,none⟩ (.slice (some ⟨Y.heap.size,0,none⟩) 1 1):=⟨_,rfl⟩
      have oU:Out (fun j=>j=gs) Y U:=by rw[hU];exact out_p _ _ _ _
      have zU:U.heap.size=Y.heap.size:=by rw[hU,World.size_setCell]
      have SBU:SB w U p gs gr d vi (.slice q n c) (.slice (some ⟨Y.heap.size,0,none⟩) 1 1) (.slice none 0 0):=by
       obtain⟨s1,s2,s3⟩:=SBY.out.set (by omega) HGW.out 3 (by omega) (.slice (some ⟨Y.heap.size,0,none⟩) 1 1)
       rw[← hU] at s1 s2 s3
       exact⟨s1,s2,s3⟩
      obtain⟨M,hM⟩:∃ V0,V0=U.alloc (.cells #[.int .i64 hop,.int .i64 hvk,.int .i64 hvn,.string hvs,.int .i64 hrel,.int .i64 hcol,.int .i64 hn,.string hs,.slice hq hlen hc] 44):=⟨_,rfl⟩
      have bM:Below U.heap.size U M:=by rw[hM];exact ext_alloc (ext_refl _) _
      have kM:BkA M U.heap.size (RawE.cells ⟨hop,⟨hvk,hvn,hvs⟩,hrel,hcol,hn,hs,hq,hlen,hc⟩):=by rw[hM];exact BkA.new U (RawE.cells ⟨hop,⟨hvk,hvn,hvs⟩,hrel,hcol,hn,hs,hq,hlen,hc⟩) 44
      rw[zU] at kM
      have SBM:=zH (SBU.below bM)
      have oXM:Out (fun j=>j=gs) X M:=((Out.of bY).trans oU).trans (Out.of bM)
      have oVM:Out (fun j=>j=p∨j=gs) V M:=(hO2.mono fun j _ h=>.inl h).trans (oXM.mono fun j _ h=>.inr h)
      have hgV:gs<V.heap.size:=Nat.lt_of_lt_of_le hgh HV.out
      have hYM:Y.heap.size<M.heap.size:=kM.lt
      have hXY:=bY.size
      have hVX:=hO2.size
      have AM:=zH (hA3.mapo (fun xy=>(xy.1,[xy.2])) (Q':=fun (x:(List It × List Fr) × List Ex)=>Part elI M gs M.heap.size x.1.1 vi∧Part elF M gs M.heap.size x.1.2 (.slice q n c)∧PartX M gs M.heap.size x.2 (.slice (some ⟨Y.heap.size,0,none⟩) 1 1)) (f':=fun x=>selG z orr d x.1.1 x.1.2 x.2) oXM (fun j (hj:j=gs)=>by omega) (fun xy h=>by
       have hw:=HV.out
       have hm:=oVM.size
       refine⟨(Part.outs elI_ok h.1.1 oVM (fun j hj=>.inl (by omega))).wide elI_ok (Nat.le_trans hw hm),(Part.outs elF_ok h.1.2 oVM (fun j hj=>.inl (by omega))).wide elF_ok (Nat.le_trans hw hm),⟨_,_,_,rfl,rfl,Nat.le_refl _,?_⟩⟩
       obtain⟨r',hv,hx⟩:=h.2
       have hrr:RawE.cells ⟨hop,⟨hvk,hvn,hvs⟩,hrel,hcol,hn,hs,hq,hlen,hc⟩=r'.cells:=ex_inj hv
       refine ExLP.one (cs:=RawE.cells ⟨hop,⟨hvk,hvn,hvs⟩,hrel,hcol,hn,hs,hq,hlen,hc⟩) ?_ hYM ⟨by omega,by omega⟩ fun j u hu=>kM.c j u hu
       rw[hrr]
       exact ExMP.on oXM.size (fun g hg hl=>oXM.block g hl (fun (e:g=gs)=>by have:V.heap.size≤g:=hg;omega)) (fun g hg hl=>⟨by have:V.heap.size≤g:=hg;omega,Nat.lt_of_lt_of_le hl oXM.size⟩) _ _ hx) (fun _ _ _=>rfl))
      have hgM:gs<M.heap.size:=by omega
      have HU:=zH hU
      have HM:=zH hM
      have hs5:Y.heap.size=X.heap.size+1:=by rw[hY];simp
      have HS5:=zH hs5
      clear hO2 hA3 hY bY kY oY hU oU zU SBU hM bM kM oXM oVM CO hs5 hXY hVX hYM hgV
      go_upto_region 35 with fail
      rw[← HY.out]
      clear HY
      go_wp2_with fail
      (try rw[← HS5.out])
      rw[← HU.out,← HM.out]
      go_meet
      exact⟨_,M.heap.size,⟨_,_,_,rfl⟩,hgM,Nat.le_refl _,SBM.out,AM.out⟩
    case rest =>
     obtain⟨vw,hi,hvw,hgi,hiw,hSB,hA⟩:=hcut
     obtain⟨W,hW⟩:∃ W,W=wc:=⟨_,rfl⟩
     rw[← hW] at hiw hSB hA ⊢
     obtain⟨iq,inn,ic,rfl⟩:=HVI.out
     obtain⟨wq,wn,wc2,rfl⟩:=hvw
     have SBW:=zH hSB.out
     have HIW:=zH hiw
     have hA1:AltP W p z T k (fun (x:(List It × List Fr) × List Ex)=>Part elI W gs hi x.1.1 (.slice iq inn ic)∧Part elF W gs hi x.1.2 (.slice q n c)∧PartX W gs hi x.2 (.slice wq wn wc2)) (fun x l=>if hSees kwGroup l=true then (fun l=>need z kwBy l fun l=>(listP z orr l).bind fun g r=>.ok (⟨d,x.1.1,x.1.2,x.2,g⟩:Sel) r) l.tail else .ok (⟨d,x.1.1,x.1.2,x.2,[]⟩:Sel) l) res:=hA.out.mapo (S:=fun _=>False) id (Out.of (Below.refl _ _)) (fun _ h=>h.elim) (fun x h=>h) (fun x l _=>congrFun (selG_eq z orr d x.1.1 x.1.2 x.2) l)
     obtain⟨b,hC⟩:=AltP.mayW (s:=kwGroup) (by decide) (f:=fun (x:(List It × List Fr) × List Ex) l=>need z kwBy l fun l=>(listP z orr l).bind fun g r=>.ok (⟨d,x.1.1,x.1.2,x.2,g⟩:Sel) r) (g:=fun (x:(List It × List Fr) × List Ex) l=>.ok (⟨d,x.1.1,x.1.2,x.2,[]⟩:Sel) l) hA1
     have CW:=zH hC
     clear hW hSB hA hA1 hC hiw
     go_wp2_with fail
     refine CW.out.mono ?_
     rintro e1 V ⟨rfl,hO1,hA2⟩
     have SBV:=zH (SBW.out.read hO1 (by omega) (by omega))
     have AV:=zH (hA2.outs (S:=fun _=>False) (Q':=fun (x:(List It × List Fr) × List Ex)=>Part elI V gs hi x.1.1 (.slice iq inn ic)∧Part elF V gs hi x.1.2 (.slice q n c)∧PartX V gs hi x.2 (.slice wq wn wc2)) (Out.of (Below.refl _ _)) (fun _ h=>h.elim) (fun x h=>⟨Part.outs elI_ok h.1 hO1 (fun j (hj:j=p)=>.inl (by omega)),Part.outs elF_ok h.2.1 hO1 (fun j (hj:j=p)=>.inl (by omega)),h.2.2.outs hO1 (fun j (hj:j=p)=>.inl (by omega)) (Nat.le_refl _)⟩))
     have HV:=zH (show hi≤V.heap.size from Nat.le_trans HIW.out hO1.size)
     clear hO1 hA2 CW SBW
     cases b with
     | false =>
      have AX:=zH (AV.out.mapo (S:=fun _=>False) (fun x=>(⟨d,x.1.1,x.1.2,x.2,[]⟩:Sel)) (Q':=(fun (x:Sel)=>x.distinct=d∧Part elI V gs hi x.items (.slice iq inn ic)∧Part elF V gs hi x.froms (.slice q n c)∧PartX V gs hi x.where_ (.slice wq wn wc2)∧PartX V gs hi x.group (.slice none 0 0))) (f':=fun x l=>.ok x l) (Out.of (Below.refl _ _)) (fun _ h=>h.elim) (fun x h=>⟨rfl,h.1,h.2.1,h.2.2,PartX.nil _ _ _⟩) (fun x l _=>by simp))
      clear AV
      go_upto_region 40 with fail
      have q5:=SBV.out.box
      have q6:=SBV.out.res
      obtain⟨c0,c1,c2,c3,c4⟩:=q5.c5_ rfl
      obtain⟨u0,u1,u2,u3,u4⟩:=q6.c5_ rfl
      have ql:=q5.lt
      have zl:=q6.lt
      have zf:=q6.fz
      have o5:Out (fun j=>j=gr) V (((((V.setCell ⟨gr,0,none⟩ (.bool d)).setCell ⟨gr,1,none⟩ (.slice iq inn ic)).setCell ⟨gr,2,none⟩ (.slice q n c)).setCell ⟨gr,3,none⟩ (.slice wq wn wc2)).setCell ⟨gr,4,none⟩ (.slice none 0 0)):=((((out_p V gr 0 _).trans (out_p _ gr 1 _)).trans (out_p _ gr 2 _)).trans (out_p _ gr 3 _)).trans (out_p _ gr 4 _)
      have HOF:=zH (Out.down (SBV.out.out.trans (o5.mono fun j _ (hj:j=gr)=>.inr (by have:=HGR.out;omega))))
      have AZ:=zH (AX.out.mapo id (Q':=fun (x:Sel)=>elS.rel (((((V.setCell ⟨gr,0,none⟩ (.bool d)).setCell ⟨gr,1,none⟩ (.slice iq inn ic)).setCell ⟨gr,2,none⟩ (.slice q n c)).setCell ⟨gr,3,none⟩ (.slice wq wn wc2)).setCell ⟨gr,4,none⟩ (.slice none 0 0)) (fun g=>w.heap.size≤g) x ⟨d,⟨iq,inn,ic⟩,⟨q,n,c⟩,⟨wq,wn,wc2⟩,⟨none,0,0⟩⟩) (f':=fun x l=>.ok x l) o5 (fun j (hj:j=gr)=>by omega) (fun x h=>sel_rel (by have:=HGW.out;omega) (fun g hg hl=>o5.block g hl (fun (e:g=gr)=>by omega)) o5.size h) (fun _ _ _=>rfl))
      clear q5 q6 o5
      go_wp2_with fail
      refine bodyPost_ret (v:=.agg #[.bool d,.slice iq inn ic,.slice q n c,.slice wq wn wc2,.slice none 0 0]) (by simp[results,Tryz.results14,go_sem,u0,u1,u2,u3,u4]) rfl ?_
      rcases AZ.out with ⟨x,l,h1,h2,rfl⟩ |⟨er,a,rfl,h2⟩
      ·exact⟨HOF.out,_,rfl,⟨⟨d,⟨iq,inn,ic⟩,⟨q,n,c⟩,⟨wq,wn,wc2⟩,⟨none,0,0⟩⟩,rfl⟩,⟨⟨d,⟨iq,inn,ic⟩,⟨q,n,c⟩,⟨wq,wn,wc2⟩,⟨none,0,0⟩⟩,rfl,h2⟩,h1⟩
      ·exact⟨HOF.out,_,rfl,⟨⟨d,⟨iq,inn,ic⟩,⟨q,n,c⟩,⟨wq,wn,wc2⟩,⟨none,0,0⟩⟩,rfl⟩,h2⟩
     | true =>
      have CM:=zH (AltP.mustW (s:=kwBy) (by decide) (f:=fun (x:(List It × List Fr) × List Ex) l=>(listP z orr l).bind fun g r=>.ok (⟨d,x.1.1,x.1.2,x.2,g⟩:Sel) r) (by have h:=AV.out;simp only[if_true] at h;exact h))
      clear AV
      go_wp2_with fail
      refine CM.out.mono ?_
      rintro e2 V2 ⟨rfl,hO2,hA3⟩
      have SB2:=zH (SBV.out.read hO2 (by omega) (by omega))
      have CL:=zH (AltP.call (one:=listP z orr) (g:=fun (x:(List It × List Fr) × List Ex) g r=>.ok (⟨d,x.1.1,x.1.2,x.2,g⟩:Sel) r) hA3 (fun res0 s=>rlist_any HC.out hK.keep res0 V2 s))
      have HO2:=zH hO2
      clear hO2 hA3 CM
      go_wp2_with fail
      refine CL.out.mono ?_
      rintro e3 X ⟨hO3,v,rfl,⟨gq,gn,gc,rfl⟩,hA4⟩
      have SBX:=zH (SB2.out.read hO3 (by omega) (by omega))
      have q4:=SBX.out.box.c 4 _ rfl
      have ql:=SBX.out.box.lt
      have qf:=SBX.out.box.fz
      obtain⟨M,hM⟩:∃ V0,V0=X.setCell ⟨gs,4,none⟩ (.slice gq gn gc):=⟨_,rfl⟩
      have oM:Out (fun j=>j=gs) X M:=by rw[hM];exact out_p _ _ _ _
      have SBM:=zH (show SB w M p gs gr d (.slice iq inn ic) (.slice q n c) (.slice wq wn wc2) (.slice gq gn gc) by
       obtain⟨s1,s2,s3⟩:=SBX.out.set (by omega) HGW.out 4 (by omega) (.slice gq gn gc)
       rw[← hM] at s1 s2 s3
       exact⟨s1,s2,s3⟩)
      have oVM:Out (fun j=>j=p∨j=gs) V M:=((HO2.out.trans hO3).mono fun j _ h=>.inl h).trans (oM.mono fun j _ h=>.inr h)
      have hgV2:gs<V2.heap.size:=SB2.out.box.lt
      have AX:=zH (hA4.mapo (fun xy=>(⟨d,xy.1.1.1,xy.1.1.2,xy.1.2,xy.2⟩:Sel)) (Q':=(fun (x:Sel)=>x.distinct=d∧Part elI M gs M.heap.size x.items (.slice iq inn ic)∧Part elF M gs M.heap.size x.froms (.slice q n c)∧PartX M gs M.heap.size x.where_ (.slice wq wn wc2)∧PartX M gs M.heap.size x.group (.slice gq gn gc))) (f':=fun x l=>.ok x l) oM (fun j (hj:j=gs)=>by omega) (fun xy h=>by
       have hm:=Nat.le_trans HV.out oVM.size
       obtain⟨⟨k1,k2,k3⟩,q6,c6,e6,l6,x6⟩:=h
       simp only[Value.slice.injEq] at e6
       obtain⟨rfl,rfl,rfl⟩:=e6
       exact⟨rfl,(Part.outs elI_ok k1 oVM (fun j hj=>.inl (by omega))).wide elI_ok hm,(Part.outs elF_ok k2 oVM (fun j hj=>.inl (by omega))).wide elF_ok hm,k3.outs oVM (fun j hj=>.inl (by omega)) hm,_,_,_,rfl,rfl,l6,ExLP.on oM.size (fun g hg hl=>oM.block g hl (fun (e:g=gs)=>by have:V2.heap.size≤g:=hg;omega)) (fun g hg hl=>⟨by have:V2.heap.size≤g:=hg;omega,Nat.lt_of_lt_of_le hl oM.size⟩) _ _ _ x6⟩) (fun _ _ _=>rfl))
      have HM:=zH hM
      clear hO3 hA4 hM oM oVM CL
      go_upto_region 40 with fail
      rw[← HM.out]
      clear HM q4 ql qf
      have q5:=SBM.out.box
      have q6:=SBM.out.res
      obtain⟨c0,c1,c2,c3,c4⟩:=q5.c5_ rfl
      obtain⟨u0,u1,u2,u3,u4⟩:=q6.c5_ rfl
      have ql:=q5.lt
      have zl:=q6.lt
      have zf:=q6.fz
      have o5:Out (fun j=>j=gr) M (((((M.setCell ⟨gr,0,none⟩ (.bool d)).setCell ⟨gr,1,none⟩ (.slice iq inn ic)).setCell ⟨gr,2,none⟩ (.slice q n c)).setCell ⟨gr,3,none⟩ (.slice wq wn wc2)).setCell ⟨gr,4,none⟩ (.slice gq gn gc)):=((((out_p M gr 0 _).trans (out_p _ gr 1 _)).trans (out_p _ gr 2 _)).trans (out_p _ gr 3 _)).trans (out_p _ gr 4 _)
      have HOF:=zH (Out.down (SBM.out.out.trans (o5.mono fun j _ (hj:j=gr)=>.inr (by have:=HGR.out;omega))))
      have AZ:=zH (AX.out.mapo id (Q':=fun (x:Sel)=>elS.rel (((((M.setCell ⟨gr,0,none⟩ (.bool d)).setCell ⟨gr,1,none⟩ (.slice iq inn ic)).setCell ⟨gr,2,none⟩ (.slice q n c)).setCell ⟨gr,3,none⟩ (.slice wq wn wc2)).setCell ⟨gr,4,none⟩ (.slice gq gn gc)) (fun g=>w.heap.size≤g) x ⟨d,⟨iq,inn,ic⟩,⟨q,n,c⟩,⟨wq,wn,wc2⟩,⟨gq,gn,gc⟩⟩) (f':=fun x l=>.ok x l) o5 (fun j (hj:j=gr)=>by omega) (fun x h=>sel_rel (by have:=HGW.out;omega) (fun g hg hl=>o5.block g hl (fun (e:g=gr)=>by omega)) o5.size h) (fun _ _ _=>rfl))
      clear q5 q6 o5
      go_wp2_with fail
      refine bodyPost_ret (v:=.agg #[.bool d,.slice iq inn ic,.slice q n c,.slice wq wn wc2,.slice gq gn gc]) (by simp[results,Tryz.results14,go_sem,u0,u1,u2,u3,u4]) rfl ?_
      rcases AZ.out with ⟨x,l,h1,h2,rfl⟩ |⟨er,a,rfl,h2⟩
      ·exact⟨HOF.out,_,rfl,⟨⟨d,⟨iq,inn,ic⟩,⟨q,n,c⟩,⟨wq,wn,wc2⟩,⟨gq,gn,gc⟩⟩,rfl⟩,⟨⟨d,⟨iq,inn,ic⟩,⟨q,n,c⟩,⟨wq,wn,wc2⟩,⟨gq,gn,gc⟩⟩,rfl,h2⟩,h1⟩
      ·exact⟨HOF.out,_,rfl,⟨⟨d,⟨iq,inn,ic⟩,⟨q,n,c⟩,⟨wq,wn,wc2⟩,⟨gq,gn,gc⟩⟩,rfl⟩,h2⟩
end Go.Proofs.YtapbglhjamddbaaGreatDoor
