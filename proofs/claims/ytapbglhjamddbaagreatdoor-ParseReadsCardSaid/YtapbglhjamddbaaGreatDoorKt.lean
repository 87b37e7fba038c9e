/- A part of the proof. -/
import Derived.Test.YtapbglhjamddbaaGreatDoorRpN
import Derived.Deep.CutBlock
import Derived.Test.YtapbglhjamddbaaGreatDoorKb
import Derived.ProofKit
import Derived.Lib.SmallJoins
import Derived.Deep.Slices
import Derived.Deep.Strs
import Derived.SizedLaws
import Derived.Test.YtapbglhjamddbaaGreatDoorHd
set_option linter.unusedSimpArgs false
set_option linter.unusedVariables false
namespace Go.Proofs.YtapbglhjamddbaaGreatDoor
open Go.RowKit Go.Deep
set_option maxRecDepth 100000
def ShI (v:Value):Prop:=∃ r:RawI,v=.agg #[.int .i64 r.agg,.int .i64 r.e.op,.int .i64 r.e.v.k,.int .i64 r.e.v.n,.string r.e.v.s,.int .i64 r.e.rel,.int .i64 r.e.col,.int .i64 r.e.n,.string r.e.s,.slice r.e.q r.e.len r.e.c]
theorem Alt.item {w V:World} {p z k:Nat} {T:List Tok} {P:Nat→Prop} {r:RawE} {a:Int} {res:PR It} (h:Alt V p z T k P r (fun x l=>.ok ⟨a,x⟩ l) res) (hO:Out (fun j=>j=p) w V) (hP:∀ j,P j→w.heap.size≤j):RAns ItV ShI p z T k res w (.returned (.agg #[.int .i64 a,.int .i64 r.op,.int .i64 r.v.k,.int .i64 r.v.n,.string r.v.s,.int .i64 r.rel,.int .i64 r.col,.int .i64 r.n,.string r.s,.slice r.q r.len r.c])) V:=by
 rcases h with ⟨e,l,h1,h2,rfl⟩ |⟨er,b,rfl,h2⟩
 ·exact⟨hO,_,rfl,⟨⟨a,r⟩,rfl⟩,⟨⟨a,r⟩,rfl,rfl,ExMP.on (Nat.le_refl _) (fun _ _ _=>rfl) (fun j hj _=>hP j hj) _ _ h2⟩,h1⟩
 ·exact⟨hO,_,rfl,⟨⟨a,r⟩,rfl⟩,h2⟩
theorem BkA.set1 {X:World} {g:Nat} {cs:List Value} (h:BkA X g cs) (k:Nat) (hk:k<cs.length) (v:Value):BkA (X.setCell ⟨g,k,none⟩ v) g (cs.set k v):=by
 refine⟨Nat.lt_of_lt_of_le h.lt (out_p X g k v).size,fun j u hu=>?_,fun o=>by rw[World.frozen?_setCell];exact h.fz o⟩
 by_cases e:k=j
 ·subst e
  rw[List.getElem?_set_self hk] at hu
  cases hu
  exact cell_set_self (h.c _ _ (List.getElem?_eq_getElem hk))
 ·rw[List.getElem?_set_ne e] at hu
  exact set_oth (h.c j u hu) (fun e2=>e e2.symm)
def agL:List Bs:=[kwCount,kwSum,kwMin,kwMax]
theorem agL_words:∀ s∈agL,s∈lexWords:=by decide
theorem agg_none {l:List Tok} (h:∀ (j:Nat) s,agL[j]?=some s→hSees s l=false):opOf opsAgg l=none:=by
 have h0:=h 0 _ rfl
 have h1:=h 1 _ rfl
 have h2:=h 2 _ rfl
 have h3:=h 3 _ rfl
 simp[opOf,opsAgg,h0,h1,h2,h3]
theorem agg_some {l:List Tok} {i:Nat} {s:Bs} (hi:agL[i]?=some s) (hs:hSees s l=true) (h:∀ (j:Nat) s,j<i→agL[j]?=some s→hSees s l=false):opOf opsAgg l=some ((2+i:Nat):Int):=by
 have hl:i<4:=(List.getElem?_eq_some_iff.1 hi).1
 match i,hl,hi with
 | 0,_,hi=>cases hi;simp[opOf,opsAgg,hs]
 | 1,_,hi=>cases hi;have h0:=h 0 _ (by omega) rfl;simp[opOf,opsAgg,hs,h0]
 | 2,_,hi=>cases hi;have h0:=h 0 _ (by omega) rfl;have h1:=h 1 _ (by omega) rfl;simp[opOf,opsAgg,hs,h0,h1]
 | 3,_,hi=>cases hi;have h0:=h 0 _ (by omega) rfl;have h1:=h 1 _ (by omega) rfl;have h2:=h 2 _ (by omega) rfl;simp[opOf,opsAgg,hs,h0,h1,h2]
theorem RO.mustSt {α:Type} {V:World} {p z k:Nat} {T l:List Tok} (h:RO V p z T l k) {s:Bs} (hs:s ∉ lexWords) {f:Rd α} {res:PR α} (hq:need z s l f=res) :
  Calls Tryz.prog 16 #[.pointer (some ⟨p,0,none⟩),.int .i64 6,.string (bsB s)] V (fun en w'=>en=.returned (.tuple #[])∧Out (fun j=>j=p) V w'∧St0 w' p z T k f res):=by
 rcases h.sign hs with ⟨t,r2,rfl,h1,hc⟩ |⟨h1,hc⟩
 ·exact (rmust_yes p z k T t r2 6 (by decide) s V h hc).mono fun en w' ⟨a,b,c⟩=>⟨a,c,.inl ⟨r2,b,by unfold need at hq;rw[if_pos h1] at hq;exact hq⟩⟩
 ·exact (rmust_no p z k T l 6 (by decide) s V h hc).mono fun en w' ⟨a,b,c⟩=>⟨a,c,.inr ⟨7,hAt z l,by unfold need at hq;rw[if_neg (by rw[h1];decide)] at hq;exact hq.symm,b⟩⟩
theorem St0.star {α:Type} {V:World} {p z k:Nat} {T:List Tok} {a:Int} {A B:Rd α} {res:PR α} (h:St0 V p z T k (fun r=>if a=2∧hSees [42] r=true then A r.tail else B r) res) (ha:a=2) :
  (∃ t r,RO V p z T (t :: r) k∧rIs 6 [42] (t :: r)=true∧A r=res)∨(Calls Tryz.prog 30 #[.pointer (some ⟨p,0,none⟩),.string (bsB [42])] V (fun e w'=>e=.returned (.bool false)∧Below V.heap.size V w')∧St0 V p z T k B res):=by
 rcases h with ⟨l,h1,h2⟩ |⟨er,b,h1,h2⟩
 ·rcases h1.sign (s:=[42]) (by decide) with ⟨t,r,rfl,h3,hc⟩ |⟨h3,hc⟩
  ·exact .inl ⟨t,r,h1,hc,by dsimp only at h2;rw[if_pos ⟨ha,h3⟩] at h2;exact h2⟩
  ·exact .inr ⟨rsign_no p z k T l [42] V h1 hc,.inl ⟨l,h1,by dsimp only at h2;rw[if_neg (by rw[h3];simp)] at h2;exact h2⟩⟩
 ·exact .inr ⟨rsign_err p z T er b (bsB [42]) V h2,.inr ⟨er,b,h1,h2⟩⟩
theorem St0.nostar {α:Type} {V:World} {p z k:Nat} {T:List Tok} {a:Int} {A B:Rd α} {res:PR α} (h:St0 V p z T k (fun r=>if a=2∧hSees [42] r=true then A r.tail else B r) res) (ha:a≠2):St0 V p z T k B res:=by
 rcases h with ⟨l,h1,h2⟩ |⟨er,b,h1,h2⟩
 ·exact .inl ⟨l,h1,by dsimp only at h2;rw[if_neg (fun e=>ha e.1)] at h2;exact h2⟩
 ·exact .inr ⟨er,b,h1,h2⟩
set_option maxHeartbeats 16000000 in
theorem ritem_any {p z k:Nat} {T:List Tok} {orr:Rd Ex} (C:RdE 33 p z T k orr) (res:PR It) (w:World) (h:St0 w p z T k (bItem z orr) res):Calls Tryz.prog 29 #[.pointer (some ⟨p,0,none⟩)] w (RAns ItV ShI p z T k res w):=by
 have lp:=h.lt
 obtain⟨A,hA⟩:∃ V0,V0=w.alloc (.cells #[.int .i64 0,.int .i64 0,.int .i64 0,.int .i64 0,.string ⟨#[]⟩,.int .i64 0,.int .i64 0,.int .i64 0,.string ⟨#[]⟩,.slice none 0 0] 46):=⟨_,rfl⟩
 have b0:Below w.heap.size w A:=by rw[hA];exact ext_alloc (ext_refl _) _
 have N0:BkA A w.heap.size [.int .i64 0,.int .i64 0,.int .i64 0,.int .i64 0,.string ⟨#[]⟩,.int .i64 0,.int .i64 0,.int .i64 0,.string ⟨#[]⟩,.slice none 0 0]:=by rw[hA];exact BkA.new w [.int .i64 0,.int .i64 0,.int .i64 0,.int .i64 0,.string ⟨#[]⟩,.int .i64 0,.int .i64 0,.int .i64 0,.string ⟨#[]⟩,.slice none 0 0] 46
 have z0:A.heap.size=w.heap.size+1:=by rw[hA];simp
 obtain⟨A1,hA1⟩:∃ V0,V0=A.alloc (.cells #[.string ⟨#[99,111,117,110,116]⟩,.string ⟨#[115,117,109]⟩,.string ⟨#[109,105,110]⟩,.string ⟨#[109,97,120]⟩] 9):=⟨_,rfl⟩
 have b1:Below A.heap.size A A1:=by rw[hA1];exact ext_alloc (ext_refl _) _
 have kS:BkA A1 A.heap.size [.string ⟨#[99,111,117,110,116]⟩,.string ⟨#[115,117,109]⟩,.string ⟨#[109,105,110]⟩,.string ⟨#[109,97,120]⟩]:=by rw[hA1];exact BkA.new A [.string ⟨#[99,111,117,110,116]⟩,.string ⟨#[115,117,109]⟩,.string ⟨#[109,105,110]⟩,.string ⟨#[109,97,120]⟩] 9
 have z1:A1.heap.size=w.heap.size+1+1:=by rw[hA1,← z0];simp
 obtain⟨A2,hA2⟩:∃ V0,V0=A1.alloc (.cells #[.int .i64 2,.int .i64 3,.int .i64 4,.int .i64 5] 3):=⟨_,rfl⟩
 have b2:Below A1.heap.size A1 A2:=by rw[hA2];exact ext_alloc (ext_refl _) _
 have kI:BkA A2 A1.heap.size [.int .i64 2,.int .i64 3,.int .i64 4,.int .i64 5]:=by rw[hA2];exact BkA.new A1 [.int .i64 2,.int .i64 3,.int .i64 4,.int .i64 5] 3
 rw[z0] at kS
 rw[z1] at kI
 have kS2:=kS.on b2
 have RA:=zH ((N0.on b1).on b2)
 have OA:=zH (Out.of (S:=fun j=>j=p∨w.heap.size≤j) ((b0.trans (b1.mono b0.size)).trans (b2.mono (Nat.le_trans b0.size b1.size))))
 have IA:=zH kI
 have ST:=zH (((h.below b0).below b1).below b2)
 have HSC:=zH (show ∀ (i:Nat) s,agL[i]?=some s→A2.cell? ⟨w.heap.size+1,i,none⟩=some (.string (bsB s)) from fun i s hs=>by
  refine kS2.c i _ ?_
  have hl:i<4:=(List.getElem?_eq_some_iff.1 hs).1
  match i,hl,hs with
  | 0,_,hs=>cases hs;rfl
  | 1,_,hs=>cases hs;rfl
  | 2,_,hs=>cases hs;rfl
  | 3,_,hs=>cases hs;rfl)
 have gsl:=kS2.lt
 have HA:=zH hA
 have HA1:=zH hA1
 have HA2:=zH hA2
 have HC:=zH C
 clear h b0 N0 z0 b1 kS z1 b2 kI kS2 hA hA1 hA2 C
 go_enter Tryz.func29,Tryz.ntmps29
 go_upto_region 3 with fail
 rw[← HA.out,← HA1.out,← HA2.out]
 clear HA HA1 HA2
 obtain⟨gi,hgi⟩:∃ g,g=w.heap.size:=⟨_,rfl⟩
 have HGR:=zH hgi
 have hpr:p<gi:=by omega
 rw[← hgi] at RA IA HSC gsl ⊢
 clear hgi
 obtain⟨ga,hga⟩:∃ g,g=gi+1+1:=⟨_,rfl⟩
 obtain⟨gs,hgs⟩:∃ g,g=gi+1:=⟨_,rfl⟩
 rw[← hga] at IA ⊢
 rw[← hgs] at HSC gsl ⊢
 have hag:gi<ga:=by omega
 clear hga hgs
 rcases ST.out with ⟨l,hRY,hq⟩ |⟨er,a,HEQ,hE⟩
 ·have HRY:=zH hRY
  have HQ:=zH hq
  clear hRY hq ST
  go_wp2_with fail
  go_loopw [5] (fun v5 wr=>∃ i:Nat,v5=.int .i64 (i:Int)∧i≤4∧Hid (Below A2.heap.size A2 wr)∧Hid (∀ (j:Nat) s,j<i→agL[j]?=some s→hSees s l=false)) (fun v5 _=>10 - (intOf v5).toNat)
  case atStart=>exact⟨0,by go_num,by omega,ext_refl _,fun j s h=>absurd h (Nat.not_lt_zero _)⟩
  case round =>
   obtain⟨i,rfl,hi,hbr,hn9⟩:=hrel
   obtain⟨W,hW⟩:∃ W,W=wr:=⟨_,rfl⟩
   rw[← hW] at hbr ⊢
   have HBW:=zH hbr.out
   have HN9:=zH hn9.out
   clear hW hbr hn9
   have hRW:=HRY.out.below HBW.out
   have RW:=zH (RA.out.on HBW.out)
   have OW:=zH (OA.out.trans (Out.of HBW.out))
   have IW:=zH (IA.out.on HBW.out)
   by_cases h4:i<4
   ·obtain⟨s,hs0⟩:∃ s,agL[i]?=some s:=⟨_,List.getElem?_eq_getElem (show i<agL.length from h4)⟩
    have sc:=(HBW.out.cell (p:=⟨gs,i,none⟩) gsl).trans (HSC.out i s hs0)
    have gl:=Nat.lt_of_lt_of_le gsl HBW.out.size
    have hw1:wrap64 ((i:Int)+1)=((i+1:Nat):Int):=by unfold wrap64;omega
    have hsw:=agL_words s (List.mem_of_getElem? hs0)
    rcases RO.word hRW hsw with ⟨t,r2,rfl,h1,hc⟩ |⟨h1,hc⟩
    ·clear hsw
     have WY:=zH (rword_yes p z k T t r2 s W hRW hc)
     have hop:=agg_some hs0 h1 HN9.out
     have HQ0:=zH (show need z [40] r2 (fun r=>if ((2+i:Nat):Int)=2∧hSees [42] r=true then need z [41] r.tail (fun r2=>PR.ok (⟨1,exZ⟩:It) r2) else (orr r).bind fun x r2=>need z [41] r2 (fun r3=>PR.ok (⟨((2+i:Nat):Int),x⟩:It) r3))=res by have h:=HQ.out;unfold bItem at h;rw[hop] at h;exact h)
     clear hRW hc h1 hs0 hop
     go_wp2_with fail
     refine WY.out.mono ?_
     rintro e1 X1 ⟨rfl,hR2,hO1⟩
     have RX:=zH (RW.out.outs hO1 (by omega))
     have OX:=zH (OW.out.trans (hO1.up (N:=w.heap.size)))
     have IX:=zH (IW.out.outs hO1 (by omega))
     have MU:=zH (hR2.mustSt (s:=[40]) (by decide) HQ0.out)
     clear hR2 hO1 WY sc gl
     go_wp2_with fail
     refine MU.out.mono ?_
     rintro e2 V2 ⟨rfl,hO2,hS2⟩
     have R0:=zH (RX.out.outs hO2 (by omega))
     have O0:=zH (OX.out.trans (hO2.up (N:=w.heap.size)))
     have I0:=zH (IX.out.outs hO2 (by omega))
     have S2:=zH hS2
     clear hO2 hS2 MU
     by_cases hi0:i=0
     ·subst hi0
      rcases St0.star (a:=((2+0:Nat):Int)) (A:=fun r=>need z [41] r (fun r2=>PR.ok (⟨1,exZ⟩:It) r2)) (B:=fun r=>(orr r).bind fun x r2=>need z [41] r2 (fun r3=>PR.ok (⟨((2+0:Nat):Int),x⟩:It) r3)) S2.out (by decide) with ⟨t5,r5,hR5,hc5,hq5⟩ |⟨WN,hB⟩
      ·have WS:=zH (rsign_yes p z k T t5 r5 [42] V2 hR5 hc5)
       have HQ:=zH hq5
       clear S2 hR5 hc5 hq5
       go_wp2_with fail
       refine WS.out.mono ?_
       rintro e3 V3 ⟨rfl,hR6,hO6⟩
       have RV:=zH (R0.out.outs hO6 (by omega))
       have OV:=zH (O0.out.trans (hO6.up (N:=w.heap.size)))
       have IV:=zH (I0.out.outs hO6 (by omega))
       have HR4:=zH hR6
       clear hR6 hO6 WS
       obtain⟨Y8,hY8⟩:∃ V0,V0=V3.alloc (.cells #[.int .i64 1,.int .i64 0,.int .i64 0,.int .i64 0,.string ⟨#[]⟩,.int .i64 0,.int .i64 0,.int .i64 0,.string ⟨#[]⟩,.slice none 0 0] 46):=⟨_,rfl⟩
       have bY8:Below V3.heap.size V3 Y8:=by rw[hY8];exact ext_alloc (ext_refl _) _
       have kY8:BkA Y8 V3.heap.size [.int .i64 1,.int .i64 0,.int .i64 0,.int .i64 0,.string ⟨#[]⟩,.int .i64 0,.int .i64 0,.int .i64 0,.string ⟨#[]⟩,.slice none 0 0]:=by rw[hY8];exact BkA.new V3 [.int .i64 1,.int .i64 0,.int .i64 0,.int .i64 0,.string ⟨#[]⟩,.int .i64 0,.int .i64 0,.int .i64 0,.string ⟨#[]⟩,.slice none 0 0] 46
       have K1:=zH kY8
       have R1:=zH (RV.out.on bY8)
       have O1:=zH (OV.out.trans (Out.of bY8))
       have I1:=zH (IV.out.on bY8)
       have hgb:gi<V3.heap.size:=RV.out.lt
       have hgI:=IV.out.lt
       have HY8:=zH hY8
       have HB8:=zH bY8
       clear hY8 bY8 kY8
       go_upto_region 11 with fail
       rw[← HY8.out]
       clear HY8
       obtain⟨gb,hgbb⟩:∃ g,g=V3.heap.size:=⟨_,rfl⟩
       rw[← hgbb] at K1 hgb hgI ⊢
       clear hgbb
       have AB:=zH (show Alt Y8 p z T k (fun j=>gi+1≤j∧j≠gb) ⟨0,zeroVal,0,0,0,⟨#[]⟩,none,0,0⟩ (fun x r=>need z [41] r (fun r=>PR.ok (⟨1,x⟩:It) r)) res from .inl ⟨exZ,_,HR4.out.below HB8.out,leaf_ex _ _ 0 zeroVal 0 ⟨#[]⟩ okVal_zer,HQ.out⟩)
       obtain⟨⟨mop,⟨mvk,mvn,mvs⟩,mrel,mcol,mn,ms,mq,mlen,mc⟩,hm⟩:∃ r:RawE,r=⟨0,zeroVal,0,0,0,⟨#[]⟩,none,0,0⟩:=⟨_,rfl⟩
       have hmc:RawE.cells ⟨mop,⟨mvk,mvn,mvs⟩,mrel,mcol,mn,ms,mq,mlen,mc⟩=[.int .i64 0,.int .i64 0,.int .i64 0,.string ⟨#[]⟩,.int .i64 0,.int .i64 0,.int .i64 0,.string ⟨#[]⟩,.slice none 0 0]:=by rw[hm];rfl
       rw[← hm] at AB
       have KB:Hid (BkA Y8 gb (.int .i64 1 :: RawE.cells ⟨mop,⟨mvk,mvn,mvs⟩,mrel,mcol,mn,ms,mq,mlen,mc⟩)):=zH (by rw[hmc];exact K1.out)
       clear hm hmc
       go_upto_region 14 with fail
       have MU:=zH (Alt.mustS (s:=[41]) (by decide) (by intro h;have:=h.1;omega) AB.out)
       go_wp2_with fail
       refine MU.out.mono ?_
       rintro e8 V8 ⟨rfl,hO8,hA8⟩
       have K8:=zH (KB.out.outs hO8 (by omega))
       have R8:=zH (R1.out.outs hO8 (by omega))
       have O8:=zH (O1.out.trans (hO8.up (N:=w.heap.size)))
       have A8:=zH hA8
       clear hO8 hA8 MU
       have q:=K8.out
       have q2:=R8.out
       obtain⟨c0,c1,c2,c3,c4,c5,c6,c7,c8,c9⟩:=q.c10_ rfl
       obtain⟨d0,d1,d2,d3,d4,d5,d6,d7,d8,d9⟩:=q2.c10_ rfl
       have ql:=q.lt
       have kl:=q2.lt
       have fz:=q2.fz
       clear q q2
       go_wp2_with fail
       have o10:=out10 V8 gi (.int .i64 1) (.int .i64 mop) (.int .i64 mvk) (.int .i64 mvn) (.string mvs) (.int .i64 mrel) (.int .i64 mcol) (.int .i64 mn) (.string ms) (.slice mq mlen mc)
       have hM:=(A8.out).outs o10 (fun j (hj:j=gi)=>⟨by omega,fun h=>by have:=h.1;omega⟩) (Q:=fun j=>gi≤j) (fun j h _=>by have:=h.1;omega)
       refine bodyPost_ret (v:=.agg #[.int .i64 1,.int .i64 mop,.int .i64 mvk,.int .i64 mvn,.string mvs,.int .i64 mrel,.int .i64 mcol,.int .i64 mn,.string ms,.slice mq mlen mc]) (by simp[results,Tryz.results29,go_sem,zeroVal,d0,d1,d2,d3,d4,d5,d6,d7,d8,d9]) rfl (hM.item (Out.down ((O8.out).trans (o10.mono fun j _ (hj:j=gi)=>.inr (by have:=HGR.out;omega)))) (fun j hj=>by have:=HGR.out;omega))
      ·have WS:=zH WN
       obtain⟨res0,s0,hq⟩:=hB.bind
       have S3:=zH s0
       have HQ:=zH hq.symm
       clear S2 WN hB s0 hq
       go_wp2_with fail
       refine WS.out.mono ?_
       rintro e3 V3 ⟨rfl,hb6⟩
       have RV:=zH (R0.out.on hb6)
       have OV:=zH (O0.out.trans (Out.of hb6))
       have IV:=zH (I0.out.on hb6)
       have SV:=zH (S3.out.below hb6)
       clear hb6 WS S3
       obtain⟨i,hi⟩:∃ x:Nat,x=0:=⟨_,rfl⟩
       obtain⟨ag,hag⟩:∃ x:Int,x=((2+0:Nat):Int):=⟨_,rfl⟩
       rw[← hag] at HQ
       have HAG:=zH hag
       clear hag
       obtain⟨Y8,hY8⟩:∃ V0,V0=V3.alloc (.cells #[.int .i64 1,.int .i64 0,.int .i64 0,.int .i64 0,.string ⟨#[]⟩,.int .i64 0,.int .i64 0,.int .i64 0,.string ⟨#[]⟩,.slice none 0 0] 46):=⟨_,rfl⟩
       have bY8:Below V3.heap.size V3 Y8:=by rw[hY8];exact ext_alloc (ext_refl _) _
       have kY8:BkA Y8 V3.heap.size [.int .i64 1,.int .i64 0,.int .i64 0,.int .i64 0,.string ⟨#[]⟩,.int .i64 0,.int .i64 0,.int .i64 0,.string ⟨#[]⟩,.slice none 0 0]:=by rw[hY8];exact BkA.new V3 [.int .i64 1,.int .i64 0,.int .i64 0,.int .i64 0,.string ⟨#[]⟩,.int .i64 0,.int .i64 0,.int .i64 0,.string ⟨#[]⟩,.slice none 0 0] 46
       have K1:=zH kY8
       have R1:=zH (RV.out.on bY8)
       have O1:=zH (OV.out.trans (Out.of bY8))
       have I1:=zH (IV.out.on bY8)
       have hgb:gi<V3.heap.size:=RV.out.lt
       have hgI:=IV.out.lt
       have HY8:=zH hY8
       have HB8:=zH bY8
       clear hY8 bY8 kY8
       go_upto_region 11 with fail
       rw[← HY8.out]
       clear HY8
       obtain⟨gb,hgbb⟩:∃ g,g=V3.heap.size:=⟨_,rfl⟩
       rw[← hgbb] at K1 hgb hgI ⊢
       clear hgbb
       have CN:=zH (HC.out res0 Y8 (SV.out.below HB8.out))
       go_wp2_with fail
       refine CN.out.mono ?_
       intro e5 X5 hA5
       obtain⟨⟨hop,⟨hvk,hvn,hvs⟩,hrel,hcol,hn,hs,hq,hlen,hc⟩,rfl,hO5,hAlt5⟩:=hA5.alt (fun x r2=>need z [41] r2 (fun r3=>PR.ok (⟨ag,x⟩:It) r3))
       rw[HQ.out] at hAlt5
       obtain⟨Y9,hY9⟩:∃ V0,V0=X5.alloc (.cells #[.int .i64 hop,.int .i64 hvk,.int .i64 hvn,.string hvs,.int .i64 hrel,.int .i64 hcol,.int .i64 hn,.string hs,.slice hq hlen hc] 44):=⟨_,rfl⟩
       have bY9:Below X5.heap.size X5 Y9:=by rw[hY9];exact ext_alloc (ext_refl _) _
       have kY9:BkA Y9 X5.heap.size (RawE.cells ⟨hop,⟨hvk,hvn,hvs⟩,hrel,hcol,hn,hs,hq,hlen,hc⟩):=by rw[hY9];exact BkA.new X5 (RawE.cells ⟨hop,⟨hvk,hvn,hvs⟩,hrel,hcol,hn,hs,hq,hlen,hc⟩) 44
       have K2:=zH ((K1.out.outs hO5 (by omega)).on bY9)
       have R2:=zH ((R1.out.outs hO5 (by omega)).on bY9)
       have O2:=zH ((O1.out.trans (hO5.up (N:=w.heap.size))).trans (Out.of bY9))
       have I2:=(I1.out.outs hO5 (by omega)).on bY9
       have ic:Y9.cell? ⟨ga,0,none⟩=some (.int .i64 ag):=by
        rw[HAG.out]
        refine I2.c 0 _ rfl
       have il:=I2.lt
       obtain⟨d0,d1,d2,d3,d4,d5,d6,d7,d8⟩:=kY9.c9_ rfl
       have kl:=kY9.lt
       have s5:=hO5.size
       have hk1:=K1.out.lt
       have A2:=zH (hAlt5.below bY9 (Q:=fun j=>gi+1≤j∧j≠gb) (fun j h1 h2=>⟨by omega,by omega⟩))
       have HY9:=zH hY9
       obtain⟨c0,c1,c2,c3,c4,c5,c6,c7,c8,c9⟩:=K2.out.c10_ rfl
       have cl:=K2.out.lt
       have cf:=K2.out.fz
       obtain⟨V7,hV7⟩:∃ V0,V0=(((((((((((Y9.setCell ⟨gb,0,none⟩ (.int .i64 ag)).setCell ⟨gb,1,none⟩ (.int .i64 hop)).setCell ⟨gb,2,none⟩ (.int .i64 hvk)).setCell ⟨gb,3,none⟩ (.int .i64 hvn)).setCell ⟨gb,4,none⟩ (.string hvs)).setCell ⟨gb,5,none⟩ (.int .i64 hrel)).setCell ⟨gb,6,none⟩ (.int .i64 hcol)).setCell ⟨gb,7,none⟩ (.int .i64 hn)).setCell ⟨gb,8,none⟩ (.string hs)).setCell ⟨gb,9,none⟩ (.slice hq hlen hc))).drew:=⟨_,rfl⟩
       have o7:Out (fun j=>j=gb) Y9 V7:=by rw[hV7];exact (out10 Y9 gb _ _ _ _ _ _ _ _ _ _).trans (Out.of (Below.drew (Below.refl _ _)))
       have K7:BkA V7 gb [.int .i64 ag,.int .i64 hop,.int .i64 hvk,.int .i64 hvn,.string hvs,.int .i64 hrel,.int .i64 hcol,.int .i64 hn,.string hs,.slice hq hlen hc]:=by rw[hV7];exact (((((((((((K2.out.set1 0 (by simp) (.int .i64 ag)).set1 1 (by simp) (.int .i64 hop)).set1 2 (by simp) (.int .i64 hvk)).set1 3 (by simp) (.int .i64 hvn)).set1 4 (by simp) (.string hvs)).set1 5 (by simp) (.int .i64 hrel)).set1 6 (by simp) (.int .i64 hcol)).set1 7 (by simp) (.int .i64 hn)).set1 8 (by simp) (.string hs)).set1 9 (by simp) (.slice hq hlen hc))).on (Below.drew (Below.refl _ _))
       have KB:=zH K7
       have RB:=zH (R2.out.outs o7 (by omega))
       have OB:=zH (O2.out.trans (o7.mono fun j _ (hj:j=gb)=>.inr (by have:=HGR.out;omega)))
       have AB:=zH (A2.out.outs o7 (fun j (hj:j=gb)=>⟨by omega,fun h=>h.2 hj⟩) (Q:=fun j=>gi+1≤j∧j≠gb) (fun _ h _=>h))
       have HV7:=zH hV7
       clear hA5 hAlt5 hO5 hY9 bY9 kY9 I2 CN s5 hk1 hV7 o7 K7
       go_upto_region 13 with fail
       rw[← HY9.out]
       clear HY9
       obtain⟨g9,hg9⟩:∃ g,g=X5.heap.size:=⟨_,rfl⟩
       rw[← hg9] at kl d0 d1 d2 d3 d4 d5 d6 d7 d8 ⊢
       clear hg9
       go_region
       go_upto_region 14 with fail
       rw[← HV7.out]
       clear HV7 c0 c1 c2 c3 c4 c5 c6 c7 c8 c9 cl cf d0 d1 d2 d3 d4 d5 d6 d7 d8 kl ic il
       have MU:=zH (Alt.mustS (s:=[41]) (by decide) (by intro h;have:=h.1;omega) AB.out)
       go_wp2_with fail
       refine MU.out.mono ?_
       rintro e8 V8 ⟨rfl,hO8,hA8⟩
       have K8:=zH (KB.out.outs hO8 (by omega))
       have R8:=zH (RB.out.outs hO8 (by omega))
       have O8:=zH (OB.out.trans (hO8.up (N:=w.heap.size)))
       have A8:=zH hA8
       clear hO8 hA8 MU
       have q:=K8.out
       have q2:=R8.out
       obtain⟨c0,c1,c2,c3,c4,c5,c6,c7,c8,c9⟩:=q.c10_ rfl
       obtain⟨d0,d1,d2,d3,d4,d5,d6,d7,d8,d9⟩:=q2.c10_ rfl
       have ql:=q.lt
       have kl:=q2.lt
       have fz:=q2.fz
       clear q q2
       go_wp2_with fail
       have o10:=out10 V8 gi (.int .i64 ag) (.int .i64 hop) (.int .i64 hvk) (.int .i64 hvn) (.string hvs) (.int .i64 hrel) (.int .i64 hcol) (.int .i64 hn) (.string hs) (.slice hq hlen hc)
       have hM:=(A8.out).outs o10 (fun j (hj:j=gi)=>⟨by omega,fun h=>by have:=h.1;omega⟩) (Q:=fun j=>gi≤j) (fun j h _=>by have:=h.1;omega)
       refine bodyPost_ret (v:=.agg #[.int .i64 ag,.int .i64 hop,.int .i64 hvk,.int .i64 hvn,.string hvs,.int .i64 hrel,.int .i64 hcol,.int .i64 hn,.string hs,.slice hq hlen hc]) (by simp[results,Tryz.results29,go_sem,zeroVal,d0,d1,d2,d3,d4,d5,d6,d7,d8,d9]) rfl (hM.item (Out.down ((O8.out).trans (o10.mono fun j _ (hj:j=gi)=>.inr (by have:=HGR.out;omega)))) (fun j hj=>by have:=HGR.out;omega))
     ·have i0:((i:Int) == 0)=false:=by rw[beq_eq_false_iff_ne];omega
      have hB:=St0.nostar (a:=((2+i:Nat):Int)) (A:=fun r=>need z [41] r (fun r2=>PR.ok (⟨1,exZ⟩:It) r2)) (B:=fun r=>(orr r).bind fun x r2=>need z [41] r2 (fun r3=>PR.ok (⟨((2+i:Nat):Int),x⟩:It) r3)) S2.out (by omega)
      obtain⟨res0,s0,hq⟩:=hB.bind
      have SV:=zH s0
      have HQ:=zH hq.symm
      have RV:=R0
      have OV:=O0
      have IV:=I0
      clear S2 hB s0 hq hi0
      obtain⟨ag,hag⟩:∃ x:Int,x=((2+i:Nat):Int):=⟨_,rfl⟩
      rw[← hag] at HQ
      have HAG:=zH hag
      clear hag
      obtain⟨Y8,hY8⟩:∃ V0,V0=V2.alloc (.cells #[.int .i64 1,.int .i64 0,.int .i64 0,.int .i64 0,.string ⟨#[]⟩,.int .i64 0,.int .i64 0,.int .i64 0,.string ⟨#[]⟩,.slice none 0 0] 46):=⟨_,rfl⟩
      have bY8:Below V2.heap.size V2 Y8:=by rw[hY8];exact ext_alloc (ext_refl _) _
      have kY8:BkA Y8 V2.heap.size [.int .i64 1,.int .i64 0,.int .i64 0,.int .i64 0,.string ⟨#[]⟩,.int .i64 0,.int .i64 0,.int .i64 0,.string ⟨#[]⟩,.slice none 0 0]:=by rw[hY8];exact BkA.new V2 [.int .i64 1,.int .i64 0,.int .i64 0,.int .i64 0,.string ⟨#[]⟩,.int .i64 0,.int .i64 0,.int .i64 0,.string ⟨#[]⟩,.slice none 0 0] 46
      have K1:=zH kY8
      have R1:=zH (RV.out.on bY8)
      have O1:=zH (OV.out.trans (Out.of bY8))
      have I1:=zH (IV.out.on bY8)
      have hgb:gi<V2.heap.size:=RV.out.lt
      have hgI:=IV.out.lt
      have HY8:=zH hY8
      have HB8:=zH bY8
      clear hY8 bY8 kY8
      go_upto_region 11 with fail
      rw[← HY8.out]
      clear HY8
      obtain⟨gb,hgbb⟩:∃ g,g=V2.heap.size:=⟨_,rfl⟩
      rw[← hgbb] at K1 hgb hgI ⊢
      clear hgbb
      have CN:=zH (HC.out res0 Y8 (SV.out.below HB8.out))
      go_wp2_with fail
      refine CN.out.mono ?_
      intro e5 X5 hA5
      obtain⟨⟨hop,⟨hvk,hvn,hvs⟩,hrel,hcol,hn,hs,hq,hlen,hc⟩,rfl,hO5,hAlt5⟩:=hA5.alt (fun x r2=>need z [41] r2 (fun r3=>PR.ok (⟨ag,x⟩:It) r3))
      rw[HQ.out] at hAlt5
      obtain⟨Y9,hY9⟩:∃ V0,V0=X5.alloc (.cells #[.int .i64 hop,.int .i64 hvk,.int .i64 hvn,.string hvs,.int .i64 hrel,.int .i64 hcol,.int .i64 hn,.string hs,.slice hq hlen hc] 44):=⟨_,rfl⟩
      have bY9:Below X5.heap.size X5 Y9:=by rw[hY9];exact ext_alloc (ext_refl _) _
      have kY9:BkA Y9 X5.heap.size (RawE.cells ⟨hop,⟨hvk,hvn,hvs⟩,hrel,hcol,hn,hs,hq,hlen,hc⟩):=by rw[hY9];exact BkA.new X5 (RawE.cells ⟨hop,⟨hvk,hvn,hvs⟩,hrel,hcol,hn,hs,hq,hlen,hc⟩) 44
      have K2:=zH ((K1.out.outs hO5 (by omega)).on bY9)
      have R2:=zH ((R1.out.outs hO5 (by omega)).on bY9)
      have O2:=zH ((O1.out.trans (hO5.up (N:=w.heap.size))).trans (Out.of bY9))
      have I2:=(I1.out.outs hO5 (by omega)).on bY9
      have ic:Y9.cell? ⟨ga,i,none⟩=some (.int .i64 ag):=by
       rw[HAG.out]
       refine I2.c i _ ?_
       match i,h4 with
       | 0,_=>rfl
       | 1,_=>rfl
       | 2,_=>rfl
       | 3,_=>rfl
      have il:=I2.lt
      obtain⟨d0,d1,d2,d3,d4,d5,d6,d7,d8⟩:=kY9.c9_ rfl
      have kl:=kY9.lt
      have s5:=hO5.size
      have hk1:=K1.out.lt
      have A2:=zH (hAlt5.below bY9 (Q:=fun j=>gi+1≤j∧j≠gb) (fun j h1 h2=>⟨by omega,by omega⟩))
      have HY9:=zH hY9
      obtain⟨c0,c1,c2,c3,c4,c5,c6,c7,c8,c9⟩:=K2.out.c10_ rfl
      have cl:=K2.out.lt
      have cf:=K2.out.fz
      obtain⟨V7,hV7⟩:∃ V0,V0=(((((((((((Y9.setCell ⟨gb,0,none⟩ (.int .i64 ag)).setCell ⟨gb,1,none⟩ (.int .i64 hop)).setCell ⟨gb,2,none⟩ (.int .i64 hvk)).setCell ⟨gb,3,none⟩ (.int .i64 hvn)).setCell ⟨gb,4,none⟩ (.string hvs)).setCell ⟨gb,5,none⟩ (.int .i64 hrel)).setCell ⟨gb,6,none⟩ (.int .i64 hcol)).setCell ⟨gb,7,none⟩ (.int .i64 hn)).setCell ⟨gb,8,none⟩ (.string hs)).setCell ⟨gb,9,none⟩ (.slice hq hlen hc))).drew:=⟨_,rfl⟩
      have o7:Out (fun j=>j=gb) Y9 V7:=by rw[hV7];exact (out10 Y9 gb _ _ _ _ _ _ _ _ _ _).trans (Out.of (Below.drew (Below.refl _ _)))
      have K7:BkA V7 gb [.int .i64 ag,.int .i64 hop,.int .i64 hvk,.int .i64 hvn,.string hvs,.int .i64 hrel,.int .i64 hcol,.int .i64 hn,.string hs,.slice hq hlen hc]:=by rw[hV7];exact (((((((((((K2.out.set1 0 (by simp) (.int .i64 ag)).set1 1 (by simp) (.int .i64 hop)).set1 2 (by simp) (.int .i64 hvk)).set1 3 (by simp) (.int .i64 hvn)).set1 4 (by simp) (.string hvs)).set1 5 (by simp) (.int .i64 hrel)).set1 6 (by simp) (.int .i64 hcol)).set1 7 (by simp) (.int .i64 hn)).set1 8 (by simp) (.string hs)).set1 9 (by simp) (.slice hq hlen hc))).on (Below.drew (Below.refl _ _))
      have KB:=zH K7
      have RB:=zH (R2.out.outs o7 (by omega))
      have OB:=zH (O2.out.trans (o7.mono fun j _ (hj:j=gb)=>.inr (by have:=HGR.out;omega)))
      have AB:=zH (A2.out.outs o7 (fun j (hj:j=gb)=>⟨by omega,fun h=>h.2 hj⟩) (Q:=fun j=>gi+1≤j∧j≠gb) (fun _ h _=>h))
      have HV7:=zH hV7
      clear hA5 hAlt5 hO5 hY9 bY9 kY9 I2 CN s5 hk1 hV7 o7 K7
      go_upto_region 13 with fail
      rw[← HY9.out]
      clear HY9
      obtain⟨g9,hg9⟩:∃ g,g=X5.heap.size:=⟨_,rfl⟩
      rw[← hg9] at kl d0 d1 d2 d3 d4 d5 d6 d7 d8 ⊢
      clear hg9
      go_region
      go_upto_region 14 with fail
      rw[← HV7.out]
      clear HV7 c0 c1 c2 c3 c4 c5 c6 c7 c8 c9 cl cf d0 d1 d2 d3 d4 d5 d6 d7 d8 kl ic il
      have MU:=zH (Alt.mustS (s:=[41]) (by decide) (by intro h;have:=h.1;omega) AB.out)
      go_wp2_with fail
      refine MU.out.mono ?_
      rintro e8 V8 ⟨rfl,hO8,hA8⟩
      have K8:=zH (KB.out.outs hO8 (by omega))
      have R8:=zH (RB.out.outs hO8 (by omega))
      have O8:=zH (OB.out.trans (hO8.up (N:=w.heap.size)))
      have A8:=zH hA8
      clear hO8 hA8 MU
      have q:=K8.out
      have q2:=R8.out
      obtain⟨c0,c1,c2,c3,c4,c5,c6,c7,c8,c9⟩:=q.c10_ rfl
      obtain⟨d0,d1,d2,d3,d4,d5,d6,d7,d8,d9⟩:=q2.c10_ rfl
      have ql:=q.lt
      have kl:=q2.lt
      have fz:=q2.fz
      clear q q2
      go_wp2_with fail
      have o10:=out10 V8 gi (.int .i64 ag) (.int .i64 hop) (.int .i64 hvk) (.int .i64 hvn) (.string hvs) (.int .i64 hrel) (.int .i64 hcol) (.int .i64 hn) (.string hs) (.slice hq hlen hc)
      have hM:=(A8.out).outs o10 (fun j (hj:j=gi)=>⟨by omega,fun h=>by have:=h.1;omega⟩) (Q:=fun j=>gi≤j) (fun j h _=>by have:=h.1;omega)
      refine bodyPost_ret (v:=.agg #[.int .i64 ag,.int .i64 hop,.int .i64 hvk,.int .i64 hvn,.string hvs,.int .i64 hrel,.int .i64 hcol,.int .i64 hn,.string hs,.slice hq hlen hc]) (by simp[results,Tryz.results29,go_sem,zeroVal,d0,d1,d2,d3,d4,d5,d6,d7,d8,d9]) rfl (hM.item (Out.down ((O8.out).trans (o10.mono fun j _ (hj:j=gi)=>.inr (by have:=HGR.out;omega)))) (fun j hj=>by have:=HGR.out;omega))
    ·have WN:=zH (rword_no p z k T l s W hRW hc)
     have HN2:=zH (show ∀ (j:Nat) u,j<i+1→agL[j]?=some u→hSees u l=false from fun j u hj hu=>by
      by_cases e:j=i
      ·subst e;rw[hs0] at hu;cases hu;exact h1
      ·exact HN9.out j u (by omega) hu)
     clear hRW hsw hs0 h1 hc
     go_wp2_with fail
     refine WN.out.mono ?_
     rintro e1 V ⟨rfl,hb⟩
     have HBV:=zH (HBW.out.trans (hb.mono HBW.out.size))
     clear hb WN sc gl
     go_wp2_with fail
     go_roundw
     case rel=>exact⟨i+1,rfl,by omega,HBV.out,HN2.out⟩
     case measure=>simp[intOf] <;> omega
   ·obtain rfl:i=4:=by omega
    have hop:=agg_none (l:=l) fun j s hs=>HN9.out j s (List.getElem?_eq_some_iff.1 hs).1 hs
    have CN:=zH (HC.out (orr l) W (.inl ⟨l,hRW,rfl⟩))
    have HQ3:=zH (show (orr l).bind (fun x r2=>PR.ok (⟨0,x⟩:It) r2)=res by have h:=HQ.out;unfold bItem at h;rw[hop] at h;rw[← h];exact (map_bind _ _).symm)
    clear h4 hop hRW
    go_wp2_with fail
    refine CN.out.mono ?_
    intro e5 X5 hA5
    obtain⟨⟨hop,⟨hvk,hvn,hvs⟩,hrel,hcol,hn,hs,hq,hlen,hc⟩,rfl,hO5,hAlt5⟩:=hA5.alt (fun x r2=>PR.ok (⟨0,x⟩:It) r2)
    rw[HQ3.out] at hAlt5
    obtain⟨Y9,hY9⟩:∃ V0,V0=X5.alloc (.cells #[.int .i64 hop,.int .i64 hvk,.int .i64 hvn,.string hvs,.int .i64 hrel,.int .i64 hcol,.int .i64 hn,.string hs,.slice hq hlen hc] 44):=⟨_,rfl⟩
    have bY9:Below X5.heap.size X5 Y9:=by rw[hY9];exact ext_alloc (ext_refl _) _
    have kY9:BkA Y9 X5.heap.size (RawE.cells ⟨hop,⟨hvk,hvn,hvs⟩,hrel,hcol,hn,hs,hq,hlen,hc⟩):=by rw[hY9];exact BkA.new X5 (RawE.cells ⟨hop,⟨hvk,hvn,hvs⟩,hrel,hcol,hn,hs,hq,hlen,hc⟩) 44
    have R2:=zH ((RW.out.outs hO5 (by omega)).on bY9)
    have O2:=zH ((OW.out.trans (hO5.up (N:=w.heap.size))).trans (Out.of bY9))
    have s5:=hO5.size
    have hgX:gi<X5.heap.size:=Nat.lt_of_lt_of_le RW.out.lt s5
    have A2:=zH (hAlt5.below bY9 (Q:=fun j=>gi+1≤j∧j≠X5.heap.size) (fun j h1 h2=>⟨by have:=RW.out.lt;omega,by omega⟩))
    have HY9:=zH hY9
    have q2:=R2.out
    obtain⟨c0,c1,c2,c3,c4,c5,c6,c7,c8⟩:=kY9.c9_ rfl
    obtain⟨d0,d1,d2,d3,d4,d5,d6,d7,d8,d9⟩:=q2.c10_ rfl
    have ql:=kY9.lt
    have kl:=q2.lt
    have fz:=q2.fz
    clear hA5 hAlt5 hO5 hY9 bY9 kY9 CN s5 q2
    go_upto_region 17 with fail
    rw[← HY9.out]
    clear HY9
    obtain⟨gb,hgb⟩:∃ g,g=X5.heap.size:=⟨_,rfl⟩
    rw[← hgb] at ql c0 c1 c2 c3 c4 c5 c6 c7 c8 A2 hgX ⊢
    clear hgb
    go_wp2_with fail
    have o10:=out10 Y9 gi (.int .i64 0) (.int .i64 hop) (.int .i64 hvk) (.int .i64 hvn) (.string hvs) (.int .i64 hrel) (.int .i64 hcol) (.int .i64 hn) (.string hs) (.slice hq hlen hc)
    have hM:=(A2.out).outs o10 (fun j (hj:j=gi)=>⟨by omega,fun h=>by have:=h.1;omega⟩) (Q:=fun j=>gi≤j) (fun j h _=>by have:=h.1;omega)
    refine bodyPost_ret (v:=.agg #[.int .i64 0,.int .i64 hop,.int .i64 hvk,.int .i64 hvn,.string hvs,.int .i64 hrel,.int .i64 hcol,.int .i64 hn,.string hs,.slice hq hlen hc]) (by simp[results,Tryz.results29,go_sem,zeroVal,d0,d1,d2,d3,d4,d5,d6,d7,d8,d9]) rfl (hM.item (Out.down ((O2.out).trans (o10.mono fun j _ (hj:j=gi)=>.inr (by have:=HGR.out;omega)))) (fun j hj=>by have:=HGR.out;omega))
 ·have HRY:=zH hE
  have HEQ:=zH HEQ
  clear hE ST
  go_wp2_with fail
  go_loopw [5] (fun v5 wr=>∃ i:Nat,v5=.int .i64 (i:Int)∧i≤4∧Hid (Below A2.heap.size A2 wr)) (fun v5 _=>10 - (intOf v5).toNat)
  case atStart=>exact⟨0,by go_num,by omega,ext_refl _⟩
  case round =>
   obtain⟨i,rfl,hi,hbr⟩:=hrel
   obtain⟨W,hW⟩:∃ W,W=wr:=⟨_,rfl⟩
   rw[← hW] at hbr ⊢
   have HBW:=zH hbr.out
   clear hW hbr
   have hRW:=HRY.out.below HBW.out
   have RW:=zH (RA.out.on HBW.out)
   have OW:=zH (OA.out.trans (Out.of HBW.out))
   have IW:=zH (IA.out.on HBW.out)
   by_cases h4:i<4
   ·obtain⟨s,hs0⟩:∃ s,agL[i]?=some s:=⟨_,List.getElem?_eq_getElem (show i<agL.length from h4)⟩
    have sc:=(HBW.out.cell (p:=⟨gs,i,none⟩) gsl).trans (HSC.out i s hs0)
    have gl:=Nat.lt_of_lt_of_le gsl HBW.out.size
    have hw1:wrap64 ((i:Int)+1)=((i+1:Nat):Int):=by unfold wrap64;omega
    have WN:=zH (rword_err p z T er a (bsB s) W hRW)
    clear hRW hs0
    go_wp2_with fail
    refine WN.out.mono ?_
    rintro e1 V ⟨rfl,hb⟩
    have HBV:=zH (HBW.out.trans (hb.mono HBW.out.size))
    clear hb WN sc gl
    go_wp2_with fail
    go_roundw
    case rel=>exact⟨i+1,rfl,by omega,HBV.out⟩
    case measure=>simp[intOf] <;> omega
   ·obtain rfl:i=4:=by omega
    have CN:=zH (HC.out (.err er a) W (.inr ⟨er,a,rfl,hRW⟩))
    have HQ3:=zH (show (PR.err er a:PR Ex).bind (fun x r2=>PR.ok (⟨0,x⟩:It) r2)=res from HEQ.symm)
    clear h4 hRW
    go_wp2_with fail
    refine CN.out.mono ?_
    intro e5 X5 hA5
    obtain⟨⟨hop,⟨hvk,hvn,hvs⟩,hrel,hcol,hn,hs,hq,hlen,hc⟩,rfl,hO5,hAlt5⟩:=hA5.alt (fun x r2=>PR.ok (⟨0,x⟩:It) r2)
    rw[HQ3.out] at hAlt5
    obtain⟨Y9,hY9⟩:∃ V0,V0=X5.alloc (.cells #[.int .i64 hop,.int .i64 hvk,.int .i64 hvn,.string hvs,.int .i64 hrel,.int .i64 hcol,.int .i64 hn,.string hs,.slice hq hlen hc] 44):=⟨_,rfl⟩
    have bY9:Below X5.heap.size X5 Y9:=by rw[hY9];exact ext_alloc (ext_refl _) _
    have kY9:BkA Y9 X5.heap.size (RawE.cells ⟨hop,⟨hvk,hvn,hvs⟩,hrel,hcol,hn,hs,hq,hlen,hc⟩):=by rw[hY9];exact BkA.new X5 (RawE.cells ⟨hop,⟨hvk,hvn,hvs⟩,hrel,hcol,hn,hs,hq,hlen,hc⟩) 44
    have R2:=zH ((RW.out.outs hO5 (by omega)).on bY9)
    have O2:=zH ((OW.out.trans (hO5.up (N:=w.heap.size))).trans (Out.of bY9))
    have s5:=hO5.size
    have hgX:gi<X5.heap.size:=Nat.lt_of_lt_of_le RW.out.lt s5
    have A2:=zH (hAlt5.below bY9 (Q:=fun j=>gi+1≤j∧j≠X5.heap.size) (fun j h1 h2=>⟨by have:=RW.out.lt;omega,by omega⟩))
    have HY9:=zH hY9
    have q2:=R2.out
    obtain⟨c0,c1,c2,c3,c4,c5,c6,c7,c8⟩:=kY9.c9_ rfl
    obtain⟨d0,d1,d2,d3,d4,d5,d6,d7,d8,d9⟩:=q2.c10_ rfl
    have ql:=kY9.lt
    have kl:=q2.lt
    have fz:=q2.fz
    clear hA5 hAlt5 hO5 hY9 bY9 kY9 CN s5 q2
    go_upto_region 17 with fail
    rw[← HY9.out]
    clear HY9
    obtain⟨gb,hgb⟩:∃ g,g=X5.heap.size:=⟨_,rfl⟩
    rw[← hgb] at ql c0 c1 c2 c3 c4 c5 c6 c7 c8 A2 hgX ⊢
    clear hgb
    go_wp2_with fail
    have o10:=out10 Y9 gi (.int .i64 0) (.int .i64 hop) (.int .i64 hvk) (.int .i64 hvn) (.string hvs) (.int .i64 hrel) (.int .i64 hcol) (.int .i64 hn) (.string hs) (.slice hq hlen hc)
    have hM:=(A2.out).outs o10 (fun j (hj:j=gi)=>⟨by omega,fun h=>by have:=h.1;omega⟩) (Q:=fun j=>gi≤j) (fun j h _=>by have:=h.1;omega)
    refine bodyPost_ret (v:=.agg #[.int .i64 0,.int .i64 hop,.int .i64 hvk,.int .i64 hvn,.string hvs,.int .i64 hrel,.int .i64 hcol,.int .i64 hn,.string hs,.slice hq hlen hc]) (by simp[results,Tryz.results29,go_sem,zeroVal,d0,d1,d2,d3,d4,d5,d6,d7,d8,d9]) rfl (hM.item (Out.down ((O2.out).trans (o10.mono fun j _ (hj:j=gi)=>.inr (by have:=HGR.out;omega)))) (fun j hj=>by have:=HGR.out;omega))
theorem letter_num (b:UInt8):isLetter b=decide ((97≤b.toNat∧b.toNat≤122)∨(65≤b.toNat∧b.toNat≤90)):=all_bytes (P:=fun b=>isLetter b=decide ((97≤b.toNat∧b.toNat≤122)∨(65≤b.toNat∧b.toNat≤90))) (by decide) b
theorem digit_num (b:UInt8):isDigit b=decide (48≤b.toNat∧b.toNat≤57):=all_bytes (P:=fun b=>isDigit b=decide (48≤b.toNat∧b.toNat≤57)) (by decide) b
theorem numOf_snoc (l:Bs) (b:UInt8):numOf (l++[b])=10*numOf l+(b.toNat - 48):=by unfold numOf;rw[List.foldl_append];rfl
theorem takeWhile_at {p:UInt8→Bool} {l:Bs} {i:Nat} {b:UInt8} (hi:i≤(l.takeWhile p).length) (hb:l[i]?=some b):i<(l.takeWhile p).length↔p b=true:=by
 induction l generalizing i with
 | nil=>cases hb
 | cons a l ih =>
  rw[List.takeWhile_cons] at hi ⊢
  cases ha:p a with
  | false =>
   rw[ha] at hi
   simp at hi
   subst hi
   simp at hb
   subst hb
   simp[ha]
  | true =>
   rw[ha] at hi
   simp only[if_true,List.length_cons] at hi ⊢
   cases i with
   | zero=>simp at hb;subst hb;simp[ha]
   | succ i=>rw[← ih (i:=i) (by omega) (by simpa using hb)];omega
theorem takeWhile_get {p:UInt8→Bool} {l:Bs} {i:Nat} {b:UInt8} (hi:i<(l.takeWhile p).length) (hb:l[i]?=some b):(l.takeWhile p)[i]?=some b:=by
 have h:=(List.takeWhile_prefix p (l:=l))
 obtain⟨t,ht⟩:=h
 rw[← hb,← List.getElem?_append_left (l₂:=t) hi,ht]
theorem lower_num (b:UInt8):(65≤b.toNat∧b.toNat≤90→(lower b).toNat=b.toNat+32)∧(¬ (65≤b.toNat∧b.toNat≤90)→lower b=b) :=
 all_bytes (P:=fun b=>(65≤b.toNat∧b.toNat≤90→(lower b).toNat=b.toNat+32)∧(¬ (65≤b.toNat∧b.toNat≤90)→lower b=b)) (by decide) b
open Go.ChangeShapes Go.WideShapes Go.ChangeAt Go.RowKit Go.Joins
set_option maxRecDepth 100000
theorem Tryz.own:ownKnob Tryz.prog.godebug=none:=by kernel_rfl
theorem Tryz.laidOut:laidOutB Tryz.prog=true:=by kernel_rfl
section
variable {H:Type} {enc:TypeId × Value→H}
theorem all_stay {W W':World} (hb:Below W.heap.size W W'):∀ {ts:List TypeId} {vs:List Value} {ds:List (DataW H)} {ps:List MemPlace},
  (∀ t∈ts,Tryz.prog.readableRec t=true∧t<Tryz.prog.types.size)→DataW.TrodAll enc Tryz.prog W 0 (fun _=>true) true ts vs ds ps→(∀ x∈ps,x.block<W.heap.size) →
  DataW.TrodAll enc Tryz.prog W' 0 (fun b=>decide (b<W.heap.size)) true ts vs ds ps
 | [],[],[],_,_,h,_=>h
 | t :: ts,v :: vs,d :: ds,ps,hr,h,hlt=>by
  obtain⟨p,q,h1,h2,rfl⟩:=h
  have hp:∀ x∈p,x.block<W.heap.size:=fun x hx=>hlt x (List.mem_append_left _ hx)
  have hq:∀ x∈q,x.block<W.heap.size:=fun x hx=>hlt x (List.mem_append_right _ hx)
  exact⟨p,q,Below.trod Tryz.laidOut (hr t List.mem_cons_self).1 (hr t List.mem_cons_self).2 h1 hb hp,all_stay hb (fun t' ht'=>hr t' (List.mem_cons_of_mem _ ht')) h2 hq,rfl⟩
 | [],[],_ :: _,_,_,h,_=>h.elim
 | [],_ :: _,_,_,_,h,_=>h.elim
 | _ :: _,[],_,_,_,h,_=>h.elim
 | _ :: _,_ :: _,[],_,_,h,_=>h.elim
theorem post_law {f:Func} {s:ChangeSpec} {W W':World} {args:Array Value} {ds gs:List (DataW H)} {before:List MemPlace} (hv:s.vars=[])
  (hW:DataW.Whole enc Tryz.prog f.params.toList s.vars false W args.toList ds gs before) (hfn:s.fn H ds={ results:=[.lit (.bool true)],args:=ds }) (hres:f.resultTypes=#[4])
  (hread:∀ t∈f.params.toList,Tryz.prog.readableRec t=true∧t<Tryz.prog.types.size) (hb:Below W.heap.size W W'):s.post enc Tryz.prog f false true false false W args (.bool true) W':=by
 have hW':=hW
 obtain⟨p,q,hA,hV,rfl,_,_⟩:=hW
 rw[hv] at hV
 obtain⟨rfl,rfl⟩:=trodVars_none hV
 have hlt:∀ x∈p,x.block<W.heap.size:=fun x hx=>hW'.lt x (List.mem_append_left _ hx)
 refine⟨ds,[],p++[],[],p,[],hW',?_,?_,?_,hb.frame _,fun h=>by cases h⟩
 ·rw[List.append_nil,hfn,hres]
  exact trodAll_mk1 (shut_bool Tryz.underlying4 true)
 ·rw[List.append_nil,hfn]
  exact all_stay hb hread hA hlt
 ·rw[List.append_nil,hfn,hv]
  exact rfl
end
open Go.ChangeShapes Go.WideShapes Go.ChangeAt Go.RowKit Go.Joins Go.Deep
set_option maxRecDepth 100000
section
variable {H:Type} {enc:TypeId × Value→H}
theorem open_word6 {r:Reach} {b0 base:Nat} {W:World} {spare:Nat→Bool} {held:Bool} {v:Value} {d:DataW H} {p:List MemPlace} (hv:Value.okWide Tryz.prog W r b0 9 v) (h:DataW.Trod enc Tryz.prog W base spare held 9 v d p) (hz:∀ n∈d.weights Tryz.prog 9,n≤reachBytes) :
  ∃ s:ByteArray,v=.string s∧s.size≤reachBytes:=by
 obtain⟨s,rfl⟩:=okWide_string Tryz.underlying9 hv
 obtain⟨fuel,hf⟩:=h
 obtain⟨s',h',hd,_⟩:=DataW.trod_string Tryz.underlying9 hf
 simp[Value.cells] at h'
 subst h'
 refine⟨s,rfl,?_⟩
 simp only[Prod.mk.injEq] at hd
 have:=hz s.data.toList.length (by rw[hd.1];simp[DataW.weights])
 rwa [Array.length_toList] at this
end
end Go.Proofs.YtapbglhjamddbaaGreatDoor
