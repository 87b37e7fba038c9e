/- A part of the proof. -/
import Derived.Test.YtapbglhjamddbaaGreatDoorRpE
import Derived.Deep.CutBlock
import Derived.Test.YtapbglhjamddbaaGreatDoorHd
set_option linter.unusedSimpArgs false
set_option linter.unusedVariables false
namespace Go.Proofs.YtapbglhjamddbaaGreatDoor
open Go.RowKit Go.Deep
set_option maxRecDepth 100000
set_option maxHeartbeats 16000000 in
theorem rtest_any {p z k:Nat} {T:List Tok} {sg:Rd Ex} (C:RdE 107 p z T k (bSum sg)):RdE 92 p z T k (bTest z sg):=fun res w h=>by
 obtain⟨res0,h0,hres0⟩:=St0.bind (one:=bSum sg) (f:=(fun x r=>if hSees kwIs r then bNull z x r.tail else match opOf opsCmp r with | none=>.ok x r | some op=>(bSum sg r.tail).map (exTwo op x))) h
 have lp:=h0.lt
 obtain⟨A,hA⟩:∃ A,A=w.alloc (.cells #[.int .i64 0,.int .i64 0,.int .i64 0,.string ⟨#[]⟩,.int .i64 0,.int .i64 0,.int .i64 0,.string ⟨#[]⟩,.slice none 0 0] 44):=⟨_,rfl⟩
 have b0:Below w.heap.size w A:=by rw[hA];exact ext_alloc (ext_refl _) _
 have N0:BkA A w.heap.size zExpr:=by rw[hA];exact BkA.new w zExpr 44
 have C0:=zH (C res0 A (h0.below b0))
 have HN:=zH N0
 have HB:=zH (Out.of (S:=fun j=>j=p∨w.heap.size≤j) b0)
 have HA:=zH hA
 have HC:=zH C
 have HRES:=zH hres0
 have hpA:=Nat.lt_of_lt_of_le lp b0.size
 clear h h0 b0 N0 hA C hres0
 go_enter Tryz.func92,Tryz.ntmps92
 go_upto_region 1 with fail
 rw[← HA.out]
 obtain⟨gr,hgr⟩:∃ g,g=w.heap.size:=⟨_,rfl⟩
 have HGR:=zH hgr
 rw[← hgr] at HN ⊢
 have hpr:p<gr:=by omega
 clear HA hgr
 go_wp2_with fail
 refine C0.out.mono ?_
 intro e X hA
 obtain⟨⟨fop,⟨fvk,fvn,fvs⟩,frel,fcol,fn,fs,fq,flen,fc⟩,rfl,hO,hAlt⟩:=hA.alt (fun x r=>if hSees kwIs r then bNull z x r.tail else match opOf opsCmp r with | none=>.ok x r | some op=>(bSum sg r.tail).map (exTwo op x))
 rw[← HRES.out] at hAlt
 obtain⟨Y,hY⟩:∃ V0,V0=X.alloc (.cells #[.int .i64 fop,.int .i64 fvk,.int .i64 fvn,.string fvs,.int .i64 frel,.int .i64 fcol,.int .i64 fn,.string fs,.slice fq flen fc] 44):=⟨_,rfl⟩
 have bY:Below X.heap.size X Y:=by rw[hY];exact ext_alloc (ext_refl _) _
 have kY:BkA Y X.heap.size (RawE.cells ⟨fop,⟨fvk,fvn,fvs⟩,frel,fcol,fn,fs,fq,flen,fc⟩):=by rw[hY];exact BkA.new X (RawE.cells ⟨fop,⟨fvk,fvn,fvs⟩,frel,fcol,fn,fs,fq,flen,fc⟩) 44
 obtain⟨Y2,hY2⟩:∃ V0,V0=Y.alloc (.cells #[.string ⟨#[61]⟩,.string ⟨#[60,62]⟩,.string ⟨#[60]⟩,.string ⟨#[60,61]⟩,.string ⟨#[62]⟩,.string ⟨#[62,61]⟩] 9):=⟨_,rfl⟩
 have bY2:Below Y.heap.size Y Y2:=by rw[hY2];exact ext_alloc (ext_refl _) _
 have kS:BkA Y2 Y.heap.size [.string ⟨#[61]⟩,.string ⟨#[60,62]⟩,.string ⟨#[60]⟩,.string ⟨#[60,61]⟩,.string ⟨#[62]⟩,.string ⟨#[62,61]⟩]:=by rw[hY2];exact BkA.new Y [.string ⟨#[61]⟩,.string ⟨#[60,62]⟩,.string ⟨#[60]⟩,.string ⟨#[60,61]⟩,.string ⟨#[62]⟩,.string ⟨#[62,61]⟩] 9
 have hgX:gr<X.heap.size:=Nat.lt_of_lt_of_le HN.out.lt hO.size
 have KY2:=zH (kY.on bY2)
 have RY2:=zH (((HN.out.outs hO (by omega)).on bY).on bY2)
 have OY2:=zH (((HB.out.trans (hO.up (N:=w.heap.size))).trans (Out.of bY)).trans (Out.of bY2))
 have AY2:=zH ((hAlt.below bY (Q:=fun j=>gr+1≤j∧j≠X.heap.size) (fun j h1 h2=>⟨by have h3:=HN.out.lt;omega,by omega⟩)).below bY2 (Q:=fun j=>gr+1≤j∧j≠X.heap.size) (fun _ h _=>h))
 have HSC:=zH (show ∀ (i:Nat) s,sgL[i]?=some s→Y2.cell? ⟨Y.heap.size,i,none⟩=some (.string (bsB s)) from fun i s hs=>by
  refine kS.c i _ ?_
  have hl:i<6:=(List.getElem?_eq_some_iff.1 hs).1
  match i,hl,hs with
  | 0,_,hs=>cases hs;rfl
  | 1,_,hs=>cases hs;rfl
  | 2,_,hs=>cases hs;rfl
  | 3,_,hs=>cases hs;rfl
  | 4,_,hs=>cases hs;rfl
  | 5,_,hs=>cases hs;rfl)
 have gsl:=kS.lt
 have HY:=zH hY
 have HY2:=zH hY2
 clear hA hO hAlt hY bY kY hY2 bY2 kS C0 HN HB HRES
 go_upto_region 3 with fail
 rw[← HY.out,← HY2.out]
 obtain⟨gs,hgs⟩:∃ g,g=Y.heap.size:=⟨_,rfl⟩
 rw[← hgs] at HSC gsl
 try rw[← hgs]
 try rw[show X.heap.size+1=gs by rw[hgs,HY.out];simp]
 obtain⟨ge,hge⟩:∃ g,g=X.heap.size:=⟨_,rfl⟩
 rw[← hge] at KY2 AY2 hgX ⊢
 clear HY HY2 hge hgs
 rcases AY2.out with ⟨x,l,hRY,hx,hq⟩ |⟨er,a,HEQ,hE⟩
 ·
  clear AY2
  have HRY:=zH hRY
  have HXX:=zH hx
  have HQ:=zH hq
  clear hRY hx hq
  go_wp2_with fail
  go_loopw [5] (fun v5 wr=>∃ i:Nat,v5=.int .i64 (i:Int)∧i≤6∧Hid (Below Y2.heap.size Y2 wr)∧Hid (∀ (j:Nat) s,j<i→sgL[j]?=some s→hSees s l=false)) (fun v5 _=>10 - (intOf v5).toNat)
  case atStart=>exact⟨0,by go_num,by omega,ext_refl _,fun j s h=>absurd h (Nat.not_lt_zero _)⟩
  case round =>
   obtain⟨i,rfl,hi,hbr,hn9⟩:=hrel
   obtain⟨W,hW⟩:∃ W,W=wr:=⟨_,rfl⟩
   rw[← hW] at hbr ⊢
   have HBW:=zH hbr.out
   have HN9:=zH hn9.out
   clear hW hbr hn9
   have hRW:=HRY.out.below HBW.out
   have KW:=zH (KY2.out.on HBW.out)
   have RW:=zH (RY2.out.on HBW.out)
   have OW:=zH (OY2.out.trans (Out.of HBW.out))
   by_cases h6:i<6
   ·obtain⟨s,hs0⟩:∃ s,sgL[i]?=some s:=⟨_,List.getElem?_eq_getElem (show i<sgL.length from h6)⟩
    have sc:=(HBW.out.cell (p:=⟨gs,i,none⟩) gsl).trans (HSC.out i s hs0)
    have gl:=Nat.lt_of_lt_of_le gsl HBW.out.size
    have hsw:=sgL_words s (List.mem_of_getElem? hs0)
    rcases RO.sign hRW hsw with ⟨t,r2,rfl,h1,hc⟩ |⟨h1,hc⟩
    ·clear hsw
     have WY:=zH (rsign_yes p z k T t r2 s W hRW hc)
     have hop:=ops_some hs0 h1 HN9.out
     have hnw:hSees kwIs (t :: r2)=false:=(sees_w (s:=kwIs) (by decide) hRW.toks).trans (rIs_apart hc)
     have HQ3:=zH (show (bSum sg r2).map (exTwo ((9+i:Nat):Int) x)=res by have h:=HQ.out;rw[if_neg (by rw[hnw];decide),hop] at h;exact h)
     have hw9:wrap64 (9+(i:Int))=((9+i:Nat):Int):=by unfold wrap64;omega
     clear hRW hc h1 hs0 hop hnw
     go_wp2_with fail
     refine WY.out.mono ?_
     rintro e1 X1 ⟨rfl,hR2,hO1⟩
     have CN:=zH (HC.out _ X1 (.inl ⟨r2,hR2,rfl⟩))
     have HO1:=zH hO1
     clear hR2 hO1 WY
     go_wp2_with fail
     refine CN.out.mono ?_
     intro e2 Y3 hA2
     obtain⟨⟨hop,⟨hvk,hvn,hvs⟩,hrel,hcol,hn,hs,hq,hlen,hc⟩,rfl,hO2,hAlt2⟩:=hA2.alt (fun y r=>PR.ok (exTwo ((9+i:Nat):Int) x y) r)
     rw[show (bSum sg r2).bind (fun y r=>PR.ok (exTwo ((9+i:Nat):Int) x y) r)=res by rw[← map_bind];exact HQ3.out] at hAlt2
     obtain⟨Y4,hY4⟩:∃ V0,V0=Y3.alloc (.cells #[.int .i64 hop,.int .i64 hvk,.int .i64 hvn,.string hvs,.int .i64 hrel,.int .i64 hcol,.int .i64 hn,.string hs,.slice hq hlen hc] 44):=⟨_,rfl⟩
     have bY4:Below Y3.heap.size Y3 Y4:=by rw[hY4];exact ext_alloc (ext_refl _) _
     have kY4:BkA Y4 Y3.heap.size (RawE.cells ⟨hop,⟨hvk,hvn,hvs⟩,hrel,hcol,hn,hs,hq,hlen,hc⟩):=by rw[hY4];exact BkA.new Y3 (RawE.cells ⟨hop,⟨hvk,hvn,hvs⟩,hrel,hcol,hn,hs,hq,hlen,hc⟩) 44
     have HY4:=zH hY4
     have HA2:=zH hAlt2
     have hgW:=KW.out.lt
     have q:=((KW.out.outs HO1.out (by omega)).outs hO2 (by omega)).on bY4
     have q2:=((RW.out.outs HO1.out (by omega)).outs hO2 (by omega)).on bY4
     have hxx:=ExMP.on (Q:=fun j=>gr+1≤j) (Nat.le_trans HO1.out.size hO2.size) (fun j hj hl=>(hO2.block j (Nat.lt_of_lt_of_le hl HO1.out.size) (fun (e:j=p)=>by have:=hj.1;omega)).trans (HO1.out.block j hl (fun (e:j=p)=>by have:=hj.1;omega))) (fun j hj _=>hj.1) _ _ (ExMP.on HBW.out.size (fun j hj hl=>HBW.out.block j hl) (fun _ h _=>h) _ _ HXX.out)
     have HXY:=zH hxx
     have HOO:=zH (((OW.out.trans (HO1.out.up (N:=w.heap.size))).trans (hO2.up (N:=w.heap.size))).trans (Out.of bY4))
     obtain⟨c0,c1,c2,c3,c4,c5,c6,c7,c8⟩:=q.c9_ rfl
     obtain⟨d0,d1,d2,d3,d4,d5,d6,d7,d8⟩:=kY4.c9_ rfl
     have ql:=q.lt
     have kl:=kY4.lt
     have HQ2:=zH q2
     have HB2:=zH bY4
     have s1:=HO1.out.size
     have s2:=hO2.size
     clear hA2 hAlt2 hO2 hY4 bY4 q q2 kY4 CN hxx
     go_upto_region 9 with fail
     rw[← HY4.out]
     clear HY4
     obtain⟨g5,hg5⟩:∃ g,g=Y3.heap.size:=⟨_,rfl⟩
     rw[← hg5] at kl d0 d1 d2 d3 d4 d5 d6 d7 d8 ⊢
     have HG5:=zH hg5
     clear hg5
     have W2:=zH (rtwo_any ((9+i:Nat):Int) ⟨fop,⟨fvk,fvn,fvs⟩,frel,fcol,fn,fs,fq,flen,fc⟩ ⟨hop,⟨hvk,hvn,hvs⟩,hrel,hcol,hn,hs,hq,hlen,hc⟩ Y4)
     go_wp2_with fail
     refine W2.out.mono ?_
     rintro e3 Z ⟨⟨nb,hn1,hn2,hcz,rfl⟩,hbZ⟩
     have qz:=HQ2.out.on hbZ
     obtain⟨u0,u1,u2,u3,u4,u5,u6,u7,u8⟩:=qz.c9_ rfl
     have zl:=qz.lt
     have zf:=qz.fz
     have s3:=HB2.out.size
     have o9:=out9 Z gr (.int .i64 ((9+i:Nat):Int)) (.int .i64 zeroVal.k) (.int .i64 zeroVal.n) (.string zeroVal.s) (.int .i64 0) (.int .i64 0) (.int .i64 0) (.string ⟨#[]⟩) (.slice (some ⟨nb,0,none⟩) 2 2)
     have HA3:=zH (Alt.two (op:=((9+i:Nat):Int)) (e:=x) (f:=fun y r=>PR.ok y r) (P:=fun j=>gr+1≤j) HXY.out HA2.out (HB2.out.trans (hbZ.mono HB2.out.size)) hn2 hcz o9 (by omega) (fun j hj=>by omega) (by omega) (fun j hj=>by omega))
     have HOM:=zH ((HOO.out.trans (Out.of hbZ)).trans (o9.mono fun j _ (hj:j=gr)=>.inr (by have:=HGR.out;omega)))
     clear hn1 hcz hbZ qz o9 c0 c1 c2 c3 c4 c5 c6 c7 c8 d0 d1 d2 d3 d4 d5 d6 d7 d8 kl ql W2 s1 s2 s3 hgW hw9
     go_wp2_with fail
     exact bodyPost_ret (v:=.agg #[.int .i64 ((9+i:Nat):Int),.int .i64 0,.int .i64 0,.string ⟨#[]⟩,.int .i64 0,.int .i64 0,.int .i64 0,.string ⟨#[]⟩,.slice (some ⟨nb,0,none⟩) 2 2]) (by simp[results,Tryz.results92,go_sem,zeroVal,u0,u1,u2,u3,u4,u5,u6,u7,u8]) rfl (HA3.out.ans (Out.down HOM.out) (fun j hj=>by have:=HGR.out;omega))
    ·have WN:=zH (rsign_no p z k T l s W hRW hc)
     have HN2:=zH (show ∀ (j:Nat) u,j<i+1→sgL[j]?=some u→hSees u l=false from fun j u hj hu=>by
      by_cases e:j=i
      ·subst e;rw[hs0] at hu;cases hu;exact h1
      ·exact HN9.out j u (by omega) hu)
     have hw1:wrap64 ((i:Int)+1)=((i+1:Nat):Int):=by unfold wrap64;omega
     clear hRW hsw hs0 h1 hc
     go_wp2_with fail
     refine WN.out.mono ?_
     rintro e1 V ⟨rfl,hb⟩
     have HBV:=zH (HBW.out.trans (hb.mono HBW.out.size))
     clear hb WN sc gl
     go_wp2_with fail
     go_roundw
     case rel=>exact⟨i+1,rfl,by omega,HBV.out,HN2.out⟩
     case measure=>simp[intOf] <;> omega
   ·obtain rfl:i=6:=by omega
    have hop:=ops_none (l:=l) fun j s hs=>HN9.out j s (List.getElem?_eq_some_iff.1 hs).1 hs
    clear h6
    rcases RO.word hRW (s:=kwIs) (by decide) with ⟨t,r2,rfl,h1,hc⟩ |⟨h1,hc⟩
    ·clear hop
     have WY:=zH (rword_yes p z k T t r2 kwIs W hRW hc)
     have HQ2:=zH (show bNull z x r2=res by have h:=HQ.out;rw[if_pos h1] at h;exact h)
     clear hRW hc h1
     go_wp2_with fail
     refine WY.out.mono ?_
     rintro e1 X1 ⟨rfl,hR2,hO1⟩
     have hxx:=ExMP.on (Q:=fun j=>gr+1≤j∧j≠ge) hO1.size (fun j hj hl=>hO1.block j hl (fun (e:j=p)=>by have:=hj.1;omega)) (fun _ h _=>h) _ _ (ExMP.on HBW.out.size (fun j hj hl=>HBW.out.block j hl) (fun _ h _=>h) _ _ HXX.out)
     have KX1:=zH (KW.out.outs hO1 (by omega))
     have RX1:=zH (RW.out.outs hO1 (by omega))
     have OX1:=zH (OW.out.trans (hO1.up (N:=w.heap.size)))
     clear WY hO1
     rcases RO.word hR2 (s:=kwNot) (by decide) with ⟨t3,r3,rfl,h1,hc⟩ |⟨h1,hc⟩
     ·
      have WY:=zH (rword_yes p z k T t3 r3 kwNot X1 hR2 hc)
      have HQ3:=zH (show need z kwNull r3 (fun r=>PR.ok (exOne 17 (exOne 18 x)) r)=res by have h:=HQ2.out;unfold bNull at h;rw[if_pos h1] at h;exact h)
      have HX1:=zH hxx
      clear hR2 hc h1 hxx HXX
      go_wp2_with fail
      refine WY.out.mono ?_
      rintro e4 X2 ⟨rfl,hR3,hO2⟩
      have HXX:=zH (ExMP.on (Q:=fun j=>gr+1≤j∧j≠ge) hO2.size (fun j hj hl=>hO2.block j hl (fun (e:j=p)=>by have:=hj.1;omega)) (fun _ h _=>h) _ _ HX1.out)
      have KX:=zH (KX1.out.outs hO2 (by omega))
      have RX:=zH (RX1.out.outs hO2 (by omega))
      have OX:=zH (OX1.out.trans (hO2.up (N:=w.heap.size)))
      have HRX:=zH hR3
      clear WY hR3 hO2
      have FF:=zH (RO.mustW (s:=kwNull) (f:=fun y r=>PR.ok (exOne 17 (exOne 18 y)) r) HRX.out (by decide) HXX.out (by intro h;have:=h.1;omega) HQ3.out)
      go_wp2_with fail
      refine FF.out.mono ?_
      rintro e5 V3 ⟨rfl,hO3,hA3⟩
      have KV3:=zH (KX.out.outs hO3 (by omega))
      have RV3:=zH (RX.out.outs hO3 (by omega))
      have OV3:=zH (OX.out.trans (hO3.up (N:=w.heap.size)))
      have AV3:=zH hA3
      clear hO3 hA3 FF
      have q:=KV3.out
      obtain⟨c0,c1,c2,c3,c4,c5,c6,c7,c8⟩:=q.c9_ rfl
      have ql:=q.lt
      have fz:=q.fz
      have W2:=zH (rone_any 18 ⟨fop,⟨fvk,fvn,fvs⟩,frel,fcol,fn,fs,fq,flen,fc⟩ V3)
      clear q
      go_wp2_with fail
      refine W2.out.mono ?_
      rintro e3 Z ⟨⟨nb,hn1,hn2,hcz,rfl⟩,hbZ⟩
      have qz:=KV3.out.on hbZ
      obtain⟨u0,u1,u2,u3,u4,u5,u6,u7,u8⟩:=qz.c9_ rfl
      have zl:=qz.lt
      have zf:=qz.fz
      obtain⟨V4,hV2⟩:∃ V0,V0=(((((((((Z.setCell ⟨ge,0,none⟩ (.int .i64 18)).setCell ⟨ge,1,none⟩ (.int .i64 zeroVal.k)).setCell ⟨ge,2,none⟩ (.int .i64 zeroVal.n)).setCell ⟨ge,3,none⟩ (.string zeroVal.s)).setCell ⟨ge,4,none⟩ (.int .i64 0)).setCell ⟨ge,5,none⟩ (.int .i64 0)).setCell ⟨ge,6,none⟩ (.int .i64 0)).setCell ⟨ge,7,none⟩ (.string ⟨#[]⟩)).setCell ⟨ge,8,none⟩ (.slice (some ⟨nb,0,none⟩) 1 1)):=⟨_,rfl⟩
      have o9:Out (fun j=>j=ge) Z V4:=by rw[hV2];exact out9 Z ge _ _ _ _ _ _ _ _ _
      have NC:BkA V4 ge (exCells 18 zeroVal 0 0 0 ⟨#[]⟩ (some ⟨nb,0,none⟩) 1 1):=by rw[hV2];exact qz.set9 _ _ _ _ _ _ _ _ _
      obtain⟨⟨mop,⟨mvk,mvn,mvs⟩,mrel,mcol,mn,ms,mq,mlen,mc⟩,hKm,hAm⟩:∃ r:RawE,BkA V4 ge r.cells∧Alt V4 p z T k (fun j=>gr+1≤j∧j≠ge) r (fun y r=>PR.ok (exOne 17 y) r) res:=⟨_,NC,Alt.one (op:=18) AV3.out hbZ hn2 hcz o9 (by omega) (fun j hj=>hj) ⟨by have:=KV3.out.lt;omega,by have:=KV3.out.lt;omega⟩ (fun j hj=>hj.2)⟩
      have KV4:=zH hKm
      have AV4:=zH hAm
      have RV4:=zH ((RV3.out.on hbZ).outs o9 (by omega))
      have OV4:=zH ((OV3.out.trans (Out.of hbZ)).trans (o9.mono fun j _ (hj:j=ge)=>.inr (by have:=HGR.out;omega)))
      have HV4:=zH hV2
      clear hn1 hcz hbZ qz o9 NC hV2 hKm hAm W2 c0 c1 c2 c3 c4 c5 c6 c7 c8 ql fz
      go_upto_region 16 with fail
      rw[← HV4.out]
      clear HV4 u0 u1 u2 u3 u4 u5 u6 u7 u8 zl zf hn2
      have q:=KV4.out
      obtain⟨c0,c1,c2,c3,c4,c5,c6,c7,c8⟩:=q.c9_ rfl
      have ql:=q.lt
      have fz:=q.fz
      have W2:=zH (rone_any 17 ⟨mop,⟨mvk,mvn,mvs⟩,mrel,mcol,mn,ms,mq,mlen,mc⟩ V4)
      clear q
      go_wp2_with fail
      refine W2.out.mono ?_
      rintro e3 Z ⟨⟨nb,hn1,hn2,hcz,rfl⟩,hbZ⟩
      have qz:=KV4.out.on hbZ
      obtain⟨u0,u1,u2,u3,u4,u5,u6,u7,u8⟩:=qz.c9_ rfl
      have zl:=qz.lt
      have zf:=qz.fz
      obtain⟨V5,hV2⟩:∃ V0,V0=(((((((((Z.setCell ⟨ge,0,none⟩ (.int .i64 17)).setCell ⟨ge,1,none⟩ (.int .i64 zeroVal.k)).setCell ⟨ge,2,none⟩ (.int .i64 zeroVal.n)).setCell ⟨ge,3,none⟩ (.string zeroVal.s)).setCell ⟨ge,4,none⟩ (.int .i64 0)).setCell ⟨ge,5,none⟩ (.int .i64 0)).setCell ⟨ge,6,none⟩ (.int .i64 0)).setCell ⟨ge,7,none⟩ (.string ⟨#[]⟩)).setCell ⟨ge,8,none⟩ (.slice (some ⟨nb,0,none⟩) 1 1)):=⟨_,rfl⟩
      have o9:Out (fun j=>j=ge) Z V5:=by rw[hV2];exact out9 Z ge _ _ _ _ _ _ _ _ _
      have NC:BkA V5 ge (exCells 17 zeroVal 0 0 0 ⟨#[]⟩ (some ⟨nb,0,none⟩) 1 1):=by rw[hV2];exact qz.set9 _ _ _ _ _ _ _ _ _
      obtain⟨⟨nop,⟨nvk,nvn,nvs⟩,nrel,ncol,nn,ns,nq,nlen,nc⟩,hKm,hAm⟩:∃ r:RawE,BkA V5 ge r.cells∧Alt V5 p z T k (fun j=>gr+1≤j∧j≠ge) r (fun y r=>PR.ok y r) res:=⟨_,NC,Alt.one (op:=17) AV4.out hbZ hn2 hcz o9 (by omega) (fun j hj=>hj) ⟨by have:=KV4.out.lt;omega,by have:=KV4.out.lt;omega⟩ (fun j hj=>hj.2)⟩
      have KV5:=zH hKm
      have AV5:=zH hAm
      have RV5:=zH ((RV4.out.on hbZ).outs o9 (by omega))
      have OV5:=zH ((OV4.out.trans (Out.of hbZ)).trans (o9.mono fun j _ (hj:j=ge)=>.inr (by have:=HGR.out;omega)))
      have HV5:=zH hV2
      clear hn1 hcz hbZ qz o9 NC hV2 hKm hAm W2 c0 c1 c2 c3 c4 c5 c6 c7 c8 ql fz
      go_upto_region 18 with fail
      rw[← HV5.out]
      clear HV5 u0 u1 u2 u3 u4 u5 u6 u7 u8 zl zf hn2
      have q:=KV5.out
      have q2:=RV5.out
      obtain⟨c0,c1,c2,c3,c4,c5,c6,c7,c8⟩:=q.c9_ rfl
      obtain⟨d0,d1,d2,d3,d4,d5,d6,d7,d8⟩:=q2.c9_ rfl
      have ql:=q.lt
      have kl:=q2.lt
      have fz:=q2.fz
      clear q q2
      go_wp2_with fail
      have o9:=out9 V5 gr (.int .i64 nop) (.int .i64 nvk) (.int .i64 nvn) (.string nvs) (.int .i64 nrel) (.int .i64 ncol) (.int .i64 nn) (.string ns) (.slice nq nlen nc)
      have hM:=(AV5.out).outs o9 (fun j (hj:j=gr)=>⟨by omega,fun h=>by have:=h.1;omega⟩) (Q:=fun j=>gr≤j) (fun j h _=>by have:=h.1;omega)
      refine bodyPost_ret (v:=.agg #[.int .i64 nop,.int .i64 nvk,.int .i64 nvn,.string nvs,.int .i64 nrel,.int .i64 ncol,.int .i64 nn,.string ns,.slice nq nlen nc]) (by simp[results,Tryz.results92,go_sem,zeroVal,d0,d1,d2,d3,d4,d5,d6,d7,d8]) rfl (hM.ans (Out.down ((OV5.out).trans (o9.mono fun j _ (hj:j=gr)=>.inr (by have:=HGR.out;omega)))) (fun j hj=>by have:=HGR.out;omega))
     ·
      have WN:=zH (rword_no p z k T r2 kwNot X1 hR2 hc)
      have HQ3:=zH (show need z kwNull r2 (fun r=>PR.ok (exOne 18 x) r)=res by have h:=HQ2.out;unfold bNull at h;rw[if_neg (by rw[h1];decide)] at h;exact h)
      have HX1:=zH hxx
      have HR2:=zH hR2
      clear hR2 hc h1 hxx HXX
      go_wp2_with fail
      refine WN.out.mono ?_
      rintro e4 X2 ⟨rfl,hb2⟩
      have HXX:=zH (ExMP.on (Q:=fun j=>gr+1≤j∧j≠ge) hb2.size (fun j hj hl=>hb2.block j hl) (fun _ h _=>h) _ _ HX1.out)
      have KX:=zH (KX1.out.on hb2)
      have RX:=zH (RX1.out.on hb2)
      have OX:=zH (OX1.out.trans (Out.of hb2))
      have HRX:=zH (HR2.out.below hb2)
      clear WN hb2
      have FF:=zH (RO.mustW (s:=kwNull) (f:=fun y r=>PR.ok (exOne 18 y) r) HRX.out (by decide) HXX.out (by intro h;have:=h.1;omega) HQ3.out)
      go_wp2_with fail
      refine FF.out.mono ?_
      rintro e5 V3 ⟨rfl,hO3,hA3⟩
      have KV3:=zH (KX.out.outs hO3 (by omega))
      have RV3:=zH (RX.out.outs hO3 (by omega))
      have OV3:=zH (OX.out.trans (hO3.up (N:=w.heap.size)))
      have AV3:=zH hA3
      clear hO3 hA3 FF
      have q:=KV3.out
      obtain⟨c0,c1,c2,c3,c4,c5,c6,c7,c8⟩:=q.c9_ rfl
      have ql:=q.lt
      have fz:=q.fz
      have W2:=zH (rone_any 18 ⟨fop,⟨fvk,fvn,fvs⟩,frel,fcol,fn,fs,fq,flen,fc⟩ V3)
      clear q
      go_wp2_with fail
      refine W2.out.mono ?_
      rintro e3 Z ⟨⟨nb,hn1,hn2,hcz,rfl⟩,hbZ⟩
      have qz:=KV3.out.on hbZ
      obtain⟨u0,u1,u2,u3,u4,u5,u6,u7,u8⟩:=qz.c9_ rfl
      have zl:=qz.lt
      have zf:=qz.fz
      obtain⟨V4,hV2⟩:∃ V0,V0=(((((((((Z.setCell ⟨ge,0,none⟩ (.int .i64 18)).setCell ⟨ge,1,none⟩ (.int .i64 zeroVal.k)).setCell ⟨ge,2,none⟩ (.int .i64 zeroVal.n)).setCell ⟨ge,3,none⟩ (.string zeroVal.s)).setCell ⟨ge,4,none⟩ (.int .i64 0)).setCell ⟨ge,5,none⟩ (.int .i64 0)).setCell ⟨ge,6,none⟩ (.int .i64 0)).setCell ⟨ge,7,none⟩ (.string ⟨#[]⟩)).setCell ⟨ge,8,none⟩ (.slice (some ⟨nb,0,none⟩) 1 1)):=⟨_,rfl⟩
      have o9:Out (fun j=>j=ge) Z V4:=by rw[hV2];exact out9 Z ge _ _ _ _ _ _ _ _ _
      have NC:BkA V4 ge (exCells 18 zeroVal 0 0 0 ⟨#[]⟩ (some ⟨nb,0,none⟩) 1 1):=by rw[hV2];exact qz.set9 _ _ _ _ _ _ _ _ _
      obtain⟨⟨mop,⟨mvk,mvn,mvs⟩,mrel,mcol,mn,ms,mq,mlen,mc⟩,hKm,hAm⟩:∃ r:RawE,BkA V4 ge r.cells∧Alt V4 p z T k (fun j=>gr+1≤j∧j≠ge) r (fun y r=>PR.ok y r) res:=⟨_,NC,Alt.one (op:=18) AV3.out hbZ hn2 hcz o9 (by omega) (fun j hj=>hj) ⟨by have:=KV3.out.lt;omega,by have:=KV3.out.lt;omega⟩ (fun j hj=>hj.2)⟩
      have KV4:=zH hKm
      have AV4:=zH hAm
      have RV4:=zH ((RV3.out.on hbZ).outs o9 (by omega))
      have OV4:=zH ((OV3.out.trans (Out.of hbZ)).trans (o9.mono fun j _ (hj:j=ge)=>.inr (by have:=HGR.out;omega)))
      have HV4:=zH hV2
      clear hn1 hcz hbZ qz o9 NC hV2 hKm hAm W2 c0 c1 c2 c3 c4 c5 c6 c7 c8 ql fz
      go_upto_region 16 with fail
      rw[← HV4.out]
      clear HV4 u0 u1 u2 u3 u4 u5 u6 u7 u8 zl zf hn2
      have q:=KV4.out
      have q2:=RV4.out
      obtain⟨c0,c1,c2,c3,c4,c5,c6,c7,c8⟩:=q.c9_ rfl
      obtain⟨d0,d1,d2,d3,d4,d5,d6,d7,d8⟩:=q2.c9_ rfl
      have ql:=q.lt
      have kl:=q2.lt
      have fz:=q2.fz
      clear q q2
      go_wp2_with fail
      have o9:=out9 V4 gr (.int .i64 mop) (.int .i64 mvk) (.int .i64 mvn) (.string mvs) (.int .i64 mrel) (.int .i64 mcol) (.int .i64 mn) (.string ms) (.slice mq mlen mc)
      have hM:=(AV4.out).outs o9 (fun j (hj:j=gr)=>⟨by omega,fun h=>by have:=h.1;omega⟩) (Q:=fun j=>gr≤j) (fun j h _=>by have:=h.1;omega)
      refine bodyPost_ret (v:=.agg #[.int .i64 mop,.int .i64 mvk,.int .i64 mvn,.string mvs,.int .i64 mrel,.int .i64 mcol,.int .i64 mn,.string ms,.slice mq mlen mc]) (by simp[results,Tryz.results92,go_sem,zeroVal,d0,d1,d2,d3,d4,d5,d6,d7,d8]) rfl (hM.ans (Out.down ((OV4.out).trans (o9.mono fun j _ (hj:j=gr)=>.inr (by have:=HGR.out;omega)))) (fun j hj=>by have:=HGR.out;omega))
    ·have WN:=zH (rword_no p z k T l kwIs W hRW hc)
     have HQ3:=zH (show PR.ok x l=res by have h:=HQ.out;rw[if_neg (by rw[h1];decide),hop] at h;exact h)
     clear hRW h1 hc hop
     go_wp2_with fail
     refine WN.out.mono ?_
     rintro e1 V ⟨rfl,hb⟩
     have hbV:=HBW.out.trans (hb.mono HBW.out.size)
     have KV:=zH (KY2.out.on hbV)
     have RV:=zH (RY2.out.on hbV)
     have OV:=zH (OY2.out.trans (Out.of hbV))
     have AV:=zH (show Alt V p z T k (fun j=>gr+1≤j∧j≠ge) ⟨fop,⟨fvk,fvn,fvs⟩,frel,fcol,fn,fs,fq,flen,fc⟩ (fun y r=>PR.ok y r) res from .inl ⟨x,l,HRY.out.below hbV,ExMP.on hbV.size (fun j hj hl=>hbV.block j hl) (fun _ h _=>h) _ _ HXX.out,HQ3.out⟩)
     clear hb hbV WN
     have q:=KV.out
     have q2:=RV.out
     obtain⟨c0,c1,c2,c3,c4,c5,c6,c7,c8⟩:=q.c9_ rfl
     obtain⟨d0,d1,d2,d3,d4,d5,d6,d7,d8⟩:=q2.c9_ rfl
     have ql:=q.lt
     have kl:=q2.lt
     have fz:=q2.fz
     clear q q2
     go_wp2_with fail
     have o9:=out9 V gr (.int .i64 fop) (.int .i64 fvk) (.int .i64 fvn) (.string fvs) (.int .i64 frel) (.int .i64 fcol) (.int .i64 fn) (.string fs) (.slice fq flen fc)
     have hM:=(AV.out).outs o9 (fun j (hj:j=gr)=>⟨by omega,fun h=>by have:=h.1;omega⟩) (Q:=fun j=>gr≤j) (fun j h _=>by have:=h.1;omega)
     refine bodyPost_ret (v:=.agg #[.int .i64 fop,.int .i64 fvk,.int .i64 fvn,.string fvs,.int .i64 frel,.int .i64 fcol,.int .i64 fn,.string fs,.slice fq flen fc]) (by simp[results,Tryz.results92,go_sem,zeroVal,d0,d1,d2,d3,d4,d5,d6,d7,d8]) rfl (hM.ans (Out.down ((OV.out).trans (o9.mono fun j _ (hj:j=gr)=>.inr (by have:=HGR.out;omega)))) (fun j hj=>by have:=HGR.out;omega))
 ·
  clear AY2
  have HRY:=zH hE
  clear hE
  go_wp2_with fail
  go_loopw [5] (fun v5 wr=>∃ i:Nat,v5=.int .i64 (i:Int)∧i≤6∧Hid (Below Y2.heap.size Y2 wr)) (fun v5 _=>10 - (intOf v5).toNat)
  case atStart=>exact⟨0,by go_num,by omega,ext_refl _⟩
  case round =>
   obtain⟨i,rfl,hi,hbr⟩:=hrel
   obtain⟨W,hW⟩:∃ W,W=wr:=⟨_,rfl⟩
   rw[← hW] at hbr ⊢
   have HBW:=zH hbr.out
   clear hW hbr
   have hRW:=HRY.out.below HBW.out
   by_cases h6:i<6
   ·obtain⟨s,hs0⟩:∃ s,sgL[i]?=some s:=⟨_,List.getElem?_eq_getElem (show i<sgL.length from h6)⟩
    have sc:=(HBW.out.cell (p:=⟨gs,i,none⟩) gsl).trans (HSC.out i s hs0)
    have gl:=Nat.lt_of_lt_of_le gsl HBW.out.size
    have WN:=zH (rsign_err p z T er a (bsB s) W hRW)
    have hw1:wrap64 ((i:Int)+1)=((i+1:Nat):Int):=by unfold wrap64;omega
    clear hRW hs0
    go_wp2_with fail
    refine WN.out.mono ?_
    rintro e1 V ⟨rfl,hb⟩
    have HBV:=zH (HBW.out.trans (hb.mono HBW.out.size))
    clear hb WN sc gl
    go_wp2_with fail
    go_roundw
    case rel=>exact⟨i+1,rfl,by omega,HBV.out⟩
    case measure=>simp[intOf] <;> omega
   ·obtain rfl:i=6:=by omega
    have WN:=zH (rword_err p z T er a (bsB kwIs) W hRW)
    clear hRW h6
    go_wp2_with fail
    refine WN.out.mono ?_
    rintro e1 V ⟨rfl,hb⟩
    have hbV:=HBW.out.trans (hb.mono HBW.out.size)
    have KV:=zH (KY2.out.on hbV)
    have RV:=zH (RY2.out.on hbV)
    have OV:=zH (OY2.out.trans (Out.of hbV))
    have AV:=zH (show Alt V p z T k (fun j=>gr+1≤j∧j≠ge) ⟨fop,⟨fvk,fvn,fvs⟩,frel,fcol,fn,fs,fq,flen,fc⟩ (fun y r=>PR.ok y r) res from .inr ⟨er,a,HEQ,HRY.out.below hbV⟩)
    clear hb hbV WN
    have q:=KV.out
    have q2:=RV.out
    obtain⟨c0,c1,c2,c3,c4,c5,c6,c7,c8⟩:=q.c9_ rfl
    obtain⟨d0,d1,d2,d3,d4,d5,d6,d7,d8⟩:=q2.c9_ rfl
    have ql:=q.lt
    have kl:=q2.lt
    have fz:=q2.fz
    clear q q2
    go_wp2_with fail
    have o9:=out9 V gr (.int .i64 fop) (.int .i64 fvk) (.int .i64 fvn) (.string fvs) (.int .i64 frel) (.int .i64 fcol) (.int .i64 fn) (.string fs) (.slice fq flen fc)
    have hM:=(AV.out).outs o9 (fun j (hj:j=gr)=>⟨by omega,fun h=>by have:=h.1;omega⟩) (Q:=fun j=>gr≤j) (fun j h _=>by have:=h.1;omega)
    refine bodyPost_ret (v:=.agg #[.int .i64 fop,.int .i64 fvk,.int .i64 fvn,.string fvs,.int .i64 frel,.int .i64 fcol,.int .i64 fn,.string fs,.slice fq flen fc]) (by simp[results,Tryz.results92,go_sem,zeroVal,d0,d1,d2,d3,d4,d5,d6,d7,d8]) rfl (hM.ans (Out.down ((OV.out).trans (o9.mono fun j _ (hj:j=gr)=>.inr (by have:=HGR.out;omega)))) (fun j hj=>by have:=HGR.out;omega))
end Go.Proofs.YtapbglhjamddbaaGreatDoor
