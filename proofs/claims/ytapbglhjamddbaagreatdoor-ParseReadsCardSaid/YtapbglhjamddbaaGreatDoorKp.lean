/- A part of the proof. -/
import Derived.Test.YtapbglhjamddbaaGreatDoorKn
import Derived.Test.YtapbglhjamddbaaGreatDoorQaC
import Derived.Deep.CutBlock
import Derived.Test.YtapbglhjamddbaaGreatDoorHd
set_option linter.unusedSimpArgs false
set_option linter.unusedVariables false
namespace Go.Proofs.YtapbglhjamddbaaGreatDoor
open Go.RowKit Go.Deep
set_option maxRecDepth 100000
def ShS (v:Value):Prop:=∃ q n c,v=.slice q n c
def LsX (b:Nat) (w:World) (xs:List Ex) (v:Value):Prop:=∃ q c,v=.slice q xs.length c∧xs.length≤c∧ExLP w (fun g=>b≤g) q 0 xs
theorem Alt.single {w V:World} {p z k nb:Nat} {T:List Tok} {P:Nat→Prop} {r:RawE} {res:PR (List Ex)} (h:Alt V p z T k P r (fun x l=>.ok [x] l) res) (hO:Out (fun j=>j=p) w V) (hP:∀ j,P j→w.heap.size≤j) (hn:w.heap.size≤nb) (hl:nb<V.heap.size) (hc:∀ (j:Nat) u,r.cells[j]?=some u→V.cell? ⟨nb,j,none⟩=some u):RAns LsX ShS p z T k res w (.returned (.slice (some ⟨nb,0,none⟩) 1 1)) V:=by
 rcases h with ⟨e,l,h1,h2,rfl⟩ |⟨er,a,rfl,h2⟩
 ·exact⟨hO,_,rfl,⟨_,_,_,rfl⟩,⟨_,_,rfl,Nat.le_refl _,ExLP.one (cs:=r.cells) (ExMP.on (Nat.le_refl _) (fun _ _ _=>rfl) (fun j hj _=>hP j hj) _ _ h2) hl hn hc⟩,h1⟩
 ·exact⟨hO,_,rfl,⟨_,_,_,rfl⟩,h2⟩
set_option maxHeartbeats 8000000 in
theorem ron_bad {p z k er a:Nat} {T:List Tok} {w:World} (hM:Calls Tryz.prog 16 #[.pointer (some ⟨p,0,none⟩),.int .i64 1,.string (bsB kwOn)] w fun e w'=>e=.returned (.tuple #[])∧RE w' p z T er a∧Out (fun j=>j=p) w w'):Calls Tryz.prog 32 #[.pointer (some ⟨p,0,none⟩)] w (RAns LsX ShS p z T k (.err er a) w):=by
 have C0:=zH hM
 clear hM
 go_enter Tryz.func32,Tryz.ntmps32
 go_wp2_with fail
 refine C0.out.mono ?_
 rintro e V ⟨rfl,hR,hO⟩
 obtain⟨dd,-,-,lpV,c3,-⟩:=hR.deep
 have hne:((er:Int) != 0)=true:=by rw[bne_iff_ne];have:=hR.ne;omega
 have RR:=zH hR
 have OO:=zH hO
 clear hR hO
 go_wp2_with fail
 exact bodyPost_ret (v:=.slice none 0 0) (by simp[results,Tryz.results32,go_sem]) rfl (RAns.mkErr rfl OO.out ⟨_,_,_,rfl⟩ RR.out)
set_option maxHeartbeats 8000000 in
theorem ron_good {p z k:Nat} {T:List Tok} {orr:Rd Ex} (C:RdE 33 p z T k orr) (t:Tok) (r:List Tok) (w:World) (hR:RO w p z T (t :: r) k) (hc:rIs 1 kwOn (t :: r)=true) (res:PR (List Ex)) (hq:(orr r).map (fun x=>[x])=res):Calls Tryz.prog 32 #[.pointer (some ⟨p,0,none⟩)] w (RAns LsX ShS p z T k res w):=by
 have C0:=zH (rmust_yes p z k T t r 1 (by decide) kwOn w hR hc)
 have HC:=zH C
 have HQ:=zH hq
 have lp:=hR.lt
 clear C hR hc hq
 go_enter Tryz.func32,Tryz.ntmps32
 go_wp2_with fail
 refine C0.out.mono ?_
 rintro e V ⟨rfl,hR,hO⟩
 obtain⟨dd,-,lpV,c3,-⟩:=hR.deep
 have CN:=zH (HC.out _ V (.inl ⟨r,hR,rfl⟩))
 have OV:=zH hO
 clear hR hO C0
 go_wp2_with fail
 refine CN.out.mono ?_
 intro e2 X hA2
 obtain⟨⟨hop,⟨hvk,hvn,hvs⟩,hrel,hcol,hn,hs,hq,hlen,hc⟩,rfl,hO2,hAlt2⟩:=hA2.alt (fun x r2=>PR.ok [x] r2)
 rw[show (orr r).bind (fun x r2=>PR.ok [x] r2)=res by rw[← map_bind (fun x=>[x])];exact HQ.out] at hAlt2
 obtain⟨Y,hY⟩:∃ V0,V0=X.alloc (.cells #[.int .i64 hop,.int .i64 hvk,.int .i64 hvn,.string hvs,.int .i64 hrel,.int .i64 hcol,.int .i64 hn,.string hs,.slice hq hlen hc] 44):=⟨_,rfl⟩
 have bY:Below X.heap.size X Y:=by rw[hY];exact ext_alloc (ext_refl _) _
 have kY:BkA Y X.heap.size (RawE.cells ⟨hop,⟨hvk,hvn,hvs⟩,hrel,hcol,hn,hs,hq,hlen,hc⟩):=by rw[hY];exact BkA.new X (RawE.cells ⟨hop,⟨hvk,hvn,hvs⟩,hrel,hcol,hn,hs,hq,hlen,hc⟩) 44
 have HY:=zH hY
 have hAY:=hAlt2.below bY (Q:=fun j=>w.heap.size≤j) (fun j hj hl=>by have:=OV.out.size;omega)
 have OY:=(OV.out.trans hO2).trans (Out.of bY)
 obtain⟨M,hM⟩:∃ V0,V0=Y.alloc (.cells #[.int .i64 hop,.int .i64 hvk,.int .i64 hvn,.string hvs,.int .i64 hrel,.int .i64 hcol,.int .i64 hn,.string hs,.slice hq hlen hc] 44):=⟨_,rfl⟩
 have bM:Below Y.heap.size Y M:=by rw[hM];exact ext_alloc (ext_refl _) _
 have kM:BkA M Y.heap.size (RawE.cells ⟨hop,⟨hvk,hvn,hvs⟩,hrel,hcol,hn,hs,hq,hlen,hc⟩):=by rw[hM];exact BkA.new Y (RawE.cells ⟨hop,⟨hvk,hvn,hvs⟩,hrel,hcol,hn,hs,hq,hlen,hc⟩) 44
 have ANS:=zH (Alt.single (w:=w) (hAY.below bM (fun _ h _=>h)) (OY.trans (Out.of bM)) (fun j hj=>hj) (by have:=OY.size;omega) kM.lt kM.c)
 have HM:=zH hM
 obtain⟨d0,d1,d2,d3,d4,d5,d6,d7,d8⟩:=kY.c9_ rfl
 have kl:=kY.lt
 clear hA2 hAlt2 hO2 hY bY kY hAY OY hM bM kM CN
 go_upto_region 5 with fail
 rw[← HY.out]
 have hs:Y.heap.size=X.heap.size+1:=by rw[HY.out];simp
 rw[hs] at ANS
 clear HY
 have HS:=zH hs
 clear hs
 go_wp2_with fail
 refine bodyPost_ret (v:=.slice (some ⟨Y.heap.size,0,none⟩) 1 1) (by simp[results,Tryz.results32,go_sem]) rfl ?_
 rw[← HM.out]
 have h:=ANS.out
 rw[HS.out]
 exact h
theorem ron_any {p z k:Nat} {T:List Tok} {orr:Rd Ex} (C:RdE 33 p z T k orr) (res:PR (List Ex)) (w:World) (h:St0 w p z T k (fun l=>need z kwOn l fun r=>(orr r).map fun x=>[x]) res):Calls Tryz.prog 32 #[.pointer (some ⟨p,0,none⟩)] w (RAns LsX ShS p z T k res w):=by
 rcases h with ⟨l,hR,rfl⟩ |⟨er,a,rfl,hE⟩
 ·rcases hR.word (s:=kwOn) (by decide) with ⟨t,r,rfl,h1,hc⟩ |⟨h1,hc⟩
  ·exact ron_good C t r w hR hc _ (show (orr r).map (fun x=>[x])=need z kwOn (t :: r) (fun r=>(orr r).map fun x=>[x]) by unfold need;rw[if_pos h1];rfl)
  ·have e:need z kwOn l (fun r=>(orr r).map fun x=>[x])=.err 7 (hAt z l):=by unfold need;rw[if_neg (by rw[h1];decide)]
   have h:=ron_bad (k:=k) (rmust_no p z k T l 1 (by decide) kwOn w hR hc)
   rw[← e] at h
   exact h
 ·exact ron_bad ((rmust_err p z T er a 1 (bsB kwOn) w hE).mono fun e w' ⟨h1,h2⟩=>⟨h1,hE.below h2,Out.of h2⟩)
set_option linter.unusedSimpArgs false
set_option linter.unusedVariables false
theorem room9 {K:List RawE} (h:K.length≤8):K.length+1≤maxLen∧(K.length+1)*104≤140737488355328:=by
 unfold maxLen
 omega
theorem lsm_x {w:World} {b:Nat} {q:Option Addr} {L:List Ex} (h:LsM elE w (fun g=>b≤g) q L):ExLP w (fun g=>b≤g) q 0 L:=h.ex
def hdF {α:Type} (z:Nat) (one:Rd α) (L:List α) (l:List Tok):PR (List α):=if L.length=8 then .err 5 (hAt z l) else (one l).bind fun x r=>listW z one (L++[x]) r
theorem listW_eq {α:Type} {z:Nat} {one:Rd α} (hK:Keep one) {L:List α} {l:List Tok}:listW z one L l=if hSees [44] l=true then hdF z one L l.tail else .ok L l:=by
 cases h:hSees [44] l with
 | false=>rw[listW_none h];rfl
 | true =>
  rw[if_pos rfl]
  unfold hdF
  by_cases h8:L.length=8
  ·rw[if_pos h8,listW_full h h8]
  ·rw[if_neg h8]
   cases h2:one l.tail with
   | err er a=>rw[listW_err h h8 h2];rfl
   | ok x r=>rw[listW_some hK h h8 h2];rfl
set_option maxHeartbeats 16000000 in
theorem rlist_any {p z k:Nat} {T:List Tok} {one:Rd Ex} (C:RdE 33 p z T k one) (hK:Keep one) (res:PR (List Ex)) (w:World) (h:St0 w p z T k (listP z one) res):Calls Tryz.prog 34 #[.pointer (some ⟨p,0,none⟩)] w (RAns LsX ShS p z T k res w):=by
 have lp:=h.lt
 have HC:=zH C
 have HK:=zH hK
 have H0:=zH (show (∃ L l,RO w p z T l k∧([]:List RawE).length=L.length∧(∀ (j:Nat) (r:RawE) (x:Ex),([]:List RawE)[j]?=some r→L[j]?=some x→elE.rel w (fun g=>w.heap.size≤g∧(Value.slice none 0 0).ownBlock≠some g) x r)∧hdF z one L l=res)∨∃ er a,res=.err er a∧RE w p z T er a from by
  rcases h with ⟨l,h1,h2⟩ |⟨er,a,h1,h2⟩
  ·exact .inl ⟨[],l,h1,rfl,fun j r x hr=>by simp at hr,h2⟩
  ·exact .inr ⟨er,a,h1,h2⟩)
 clear h C hK
 go_enter Tryz.func34,Tryz.ntmps34
 go_wp2_with fail
 go_loopw [3] (fun v3 wr=>∃ K:List RawE,OwnF wr w.heap.size 44 9 RawE.cells v3 K∧K.length≤8∧Hid (Out (fun j=>j=p) w wr)∧Hid ((∃ L l,RO wr p z T l k∧K.length=L.length∧(∀ (j:Nat) (r:RawE) (x:Ex),K[j]?=some r→L[j]?=some x→elE.rel wr (fun g=>w.heap.size≤g∧v3.ownBlock≠some g) x r)∧hdF z one L l=res)∨∃ er a,res=.err er a∧RE wr p z T er a)) (fun _ wr=>rleft wr p)
 case atStart=>exact⟨[],OwnF.nil _ _ _,Nat.zero_le _,Out.of (ext_refl _),H0.out⟩
 case round =>
  obtain⟨K,hO,hK8,hOut,hS⟩:=hrel
  obtain⟨W,hW⟩:∃ W,W=wr:=⟨_,rfl⟩
  rw[← hW] at hO hOut hS ⊢
  obtain⟨q,c,rfl,-⟩:=OwnF.arr elE_ok.len hO
  have HN9:=zH hK8
  have OW:=zH hOut.out
  have OWNW:=zH hO
  have hwW:=hOut.out.size
  clear hW hO hOut H0
  obtain⟨n,hn⟩:∃ n,n=K.length:=⟨_,rfl⟩
  have HNN:=zH hn
  rw[← hn]
  rw[← hn] at hK8 OWNW hS
  rcases hS.out with ⟨L,l,hR,hKL,hrel,hq⟩ |⟨er,a,hres,hE⟩
  ·by_cases h8:n=8
   ·have e8:((n:Int) == 8)=true:=by rw[beq_iff_eq];omega
    have NO:=zH (rno_ok 5 (by decide) hR)
    have HRES:=zH (show res=.err 5 (hAt z l) by rw[← hq];unfold hdF;rw[if_pos (by omega)])
    clear hR hKL hrel hq hS hn h8
    go_wp2_with fail
    refine NO.out.mono ?_
    rintro e1 V0 ⟨rfl,hE,hO0⟩
    obtain⟨er,her⟩:∃ e:Nat,e=5:=⟨_,rfl⟩
    obtain⟨a,ha⟩:∃ b,b=hAt z l:=⟨_,rfl⟩
    rw[← her,← ha] at HRES hE
    have OWN0:=zH (OWNW.out.kept hO0 (fun j (hj:j=p) e=>by have:=(OWNW.out.lt j e).1;omega))
    have OV0:=zH (OW.out.trans hO0)
    have CN:=zH (HC.out (.err er a) V0 (.inr ⟨er,a,rfl,hE⟩))
    clear her ha hE hO0 NO e8
    go_wp2_with fail
    refine CN.out.mono ?_
    intro e2 Y hA2
    obtain⟨hO2,v,rfl,⟨⟨hop,⟨hvk,hvn,hvs⟩,hrel,hcol,hn,hs,hq,hlen,hc⟩,rfl⟩,hE2⟩:=hA2.err rfl
    have OWY:=zH (OWN0.out.kept hO2 (fun j (hj:j=p) e=>by have:=(OWN0.out.lt j e).1;omega))
    have OY:=zH (OV0.out.trans hO2)
    have hwY:=OY.out.size
    have HEY:=zH hE2
    clear hA2 hO2 hE2 CN
    obtain⟨Y2,hY2⟩:∃ V0,V0=Y.alloc (.cells #[.int .i64 hop,.int .i64 hvk,.int .i64 hvn,.string hvs,.int .i64 hrel,.int .i64 hcol,.int .i64 hn,.string hs,.slice hq hlen hc] 44):=⟨_,rfl⟩
    have bY2:Below Y.heap.size Y Y2:=by rw[hY2];exact ext_alloc (ext_refl _) _
    have kY2:BkA Y2 Y.heap.size (RawE.cells ⟨hop,⟨hvk,hvn,hvs⟩,hrel,hcol,hn,hs,hq,hlen,hc⟩):=by rw[hY2];exact BkA.new Y (RawE.cells ⟨hop,⟨hvk,hvn,hvs⟩,hrel,hcol,hn,hs,hq,hlen,hc⟩) 44
    have HY2:=zH hY2
    obtain⟨d0,d1,d2,d3,d4,d5,d6,d7,d8⟩:=kY2.c9_ rfl
    have kl:=kY2.lt
    have OW2:=zH (OWY.out.later bY2)
    have b1:Below Y2.heap.size Y2 (Y2.alloc (.cells #[.int .i64 hop,.int .i64 hvk,.int .i64 hvn,.string hvs,.int .i64 hrel,.int .i64 hcol,.int .i64 hn,.string hs,.slice hq hlen hc] 44)):=ext_alloc (ext_refl _) _
    have HBU:=zH (bY2.trans (b1.mono bY2.size))
    have OWU:=zH (OW2.out.later b1)
    have hsU:w.heap.size≤(Y2.alloc (.cells #[.int .i64 hop,.int .i64 hvk,.int .i64 hvn,.string hvs,.int .i64 hrel,.int .i64 hcol,.int .i64 hn,.string hs,.slice hq hlen hc] 44)).heap.size:=Nat.le_trans hwY HBU.out.size
    have KR:=zH (room9 HN9.out)
    have HSU:=zH hsU
    clear hY2 bY2 kY2 b1 hsU
    go_upto_region 5 with fail
    rw[← HY2.out]
    clear HY2
    go_wp2_with (at_builtin;go_must (refine wp_append_at rfl _ _ 36 44 rfl Tryz.underlying36 _ 104 Tryz.info_expr rfl (by omega) elE_ok.len RawE.one w.heap.size _ K rfl OWU.out _ 1 1 [⟨hop,⟨hvk,hvn,hvs⟩,hrel,hcol,hn,hs,hq,hlen,hc⟩] rfl rfl 0 _ (one_block elE_ok.len 44 #[.int .i64 hop,.int .i64 hvk,.int .i64 hvn,.string hvs,.int .i64 hrel,.int .i64 hcol,.int .i64 hn,.string hs,.slice hq hlen hc] ⟨hop,⟨hvk,hvn,hvs⟩,hrel,hcol,hn,hs,hq,hlen,hc⟩ rfl _ rfl) ?kr ?ka ?kb ?_))
    case kr=>exact KR.out.1
    case ka=>exact KR.out.2
    case kb=>exact HSU.out
    intro v2 M ON bN oN hat
    obtain⟨q2,c2,hv2,-⟩:=OwnF.arr elE_ok.len ON
    obtain⟨n2,hn2⟩:∃ m,m=(K++[(⟨hop,⟨hvk,hvn,hvs⟩,hrel,hcol,hn,hs,hq,hlen,hc⟩:RawE)]).length:=⟨_,rfl⟩
    rw[← hn2] at hv2
    subst hv2
    clear hn2
    have HEM:=zH ((HEY.out.below HBU.out).outs oN (fun j e=>by have:=(OWU.out.lt j e).1;omega))
    have HOF:=zH (Out.down (((OY.out.up (N:=w.heap.size)).trans (Out.of HBU.out)).trans (oN.mono fun j _ hj=>.inr (OWU.out.lt j hj).1)))
    have WS:=zH (rsign_err p z T er a (bsB [44]) M HEM.out)
    clear ON bN oN hat d0 d1 d2 d3 d4 d5 d6 d7 d8 kl
    go_wp2_with fail
    refine WS.out.mono ?_
    rintro e4 M2 ⟨rfl,hb⟩
    have HEF:=zH (HEM.out.below hb)
    have HOO:=zH (HOF.out.trans (Out.of hb))
    clear hb WS
    go_wp2_with fail
    exact bodyPost_ret (v:=.slice q2 n2 c2) (by simp[results,Tryz.results34,go_sem]) rfl (RAns.mkErr HRES.out HOO.out ⟨_,_,_,rfl⟩ HEF.out)
   ·have e8:((n:Int) == 8)=false:=by rw[beq_eq_false_iff_ne];omega
    have HLW:=zH hR.left
    have CN:=zH (HC.out (one l) W (.inl ⟨l,hR,rfl⟩))
    have HKL:=zH (HNN.out.symm.trans hKL)
    have HREL:=zH hrel
    have HN7:=zH (show K.length≤7 by have:=HNN.out;omega)
    have HQ:=zH (show (one l).bind (fun x r=>listW z one (L++[x]) r)=res by rw[← hq];unfold hdF;rw[if_neg (by omega)])
    have OWN0:=OWNW
    have OV0:=OW
    clear hR hKL hrel hq hS hn h8
    go_wp2_with fail
    refine CN.out.mono ?_
    intro e2 Y hA2
    have HLF:=zH (RAns.left HK.out hA2)
    cases hr:one l with
    | err er a =>
     rw[hr] at hA2
     obtain⟨hO2,v,rfl,⟨⟨hop,⟨hvk,hvn,hvs⟩,hrel,hcol,hn,hs,hq,hlen,hc⟩,rfl⟩,hE2⟩:=hA2.err rfl
     have HRES:=zH (show res=.err er a by rw[← HQ.out,hr];rfl)
     have OWY:=zH (OWN0.out.kept hO2 (fun j (hj:j=p) e=>by have:=(OWN0.out.lt j e).1;omega))
     have OY:=zH (OV0.out.trans hO2)
     have hwY:=OY.out.size
     have HEY:=zH hE2
     clear hA2 hO2 hE2 CN hr
     obtain⟨Y2,hY2⟩:∃ V0,V0=Y.alloc (.cells #[.int .i64 hop,.int .i64 hvk,.int .i64 hvn,.string hvs,.int .i64 hrel,.int .i64 hcol,.int .i64 hn,.string hs,.slice hq hlen hc] 44):=⟨_,rfl⟩
     have bY2:Below Y.heap.size Y Y2:=by rw[hY2];exact ext_alloc (ext_refl _) _
     have kY2:BkA Y2 Y.heap.size (RawE.cells ⟨hop,⟨hvk,hvn,hvs⟩,hrel,hcol,hn,hs,hq,hlen,hc⟩):=by rw[hY2];exact BkA.new Y (RawE.cells ⟨hop,⟨hvk,hvn,hvs⟩,hrel,hcol,hn,hs,hq,hlen,hc⟩) 44
     have HY2:=zH hY2
     obtain⟨d0,d1,d2,d3,d4,d5,d6,d7,d8⟩:=kY2.c9_ rfl
     have kl:=kY2.lt
     have OW2:=zH (OWY.out.later bY2)
     have b1:Below Y2.heap.size Y2 (Y2.alloc (.cells #[.int .i64 hop,.int .i64 hvk,.int .i64 hvn,.string hvs,.int .i64 hrel,.int .i64 hcol,.int .i64 hn,.string hs,.slice hq hlen hc] 44)):=ext_alloc (ext_refl _) _
     have HBU:=zH (bY2.trans (b1.mono bY2.size))
     have OWU:=zH (OW2.out.later b1)
     have hsU:w.heap.size≤(Y2.alloc (.cells #[.int .i64 hop,.int .i64 hvk,.int .i64 hvn,.string hvs,.int .i64 hrel,.int .i64 hcol,.int .i64 hn,.string hs,.slice hq hlen hc] 44)).heap.size:=Nat.le_trans hwY HBU.out.size
     have KR:=zH (room9 HN9.out)
     have HSU:=zH hsU
     clear hY2 bY2 kY2 b1 hsU
     go_upto_region 5 with fail
     rw[← HY2.out]
     clear HY2
     go_wp2_with (at_builtin;go_must (refine wp_append_at rfl _ _ 36 44 rfl Tryz.underlying36 _ 104 Tryz.info_expr rfl (by omega) elE_ok.len RawE.one w.heap.size _ K rfl OWU.out _ 1 1 [⟨hop,⟨hvk,hvn,hvs⟩,hrel,hcol,hn,hs,hq,hlen,hc⟩] rfl rfl 0 _ (one_block elE_ok.len 44 #[.int .i64 hop,.int .i64 hvk,.int .i64 hvn,.string hvs,.int .i64 hrel,.int .i64 hcol,.int .i64 hn,.string hs,.slice hq hlen hc] ⟨hop,⟨hvk,hvn,hvs⟩,hrel,hcol,hn,hs,hq,hlen,hc⟩ rfl _ rfl) ?kr ?ka ?kb ?_))
     case kr=>exact KR.out.1
     case ka=>exact KR.out.2
     case kb=>exact HSU.out
     intro v2 M ON bN oN hat
     obtain⟨q2,c2,hv2,-⟩:=OwnF.arr elE_ok.len ON
     obtain⟨n2,hn2⟩:∃ m,m=(K++[(⟨hop,⟨hvk,hvn,hvs⟩,hrel,hcol,hn,hs,hq,hlen,hc⟩:RawE)]).length:=⟨_,rfl⟩
     rw[← hn2] at hv2
     subst hv2
     clear hn2
     have HEM:=zH ((HEY.out.below HBU.out).outs oN (fun j e=>by have:=(OWU.out.lt j e).1;omega))
     have HOF:=zH (Out.down (((OY.out.up (N:=w.heap.size)).trans (Out.of HBU.out)).trans (oN.mono fun j _ hj=>.inr (OWU.out.lt j hj).1)))
     have WS:=zH (rsign_err p z T er a (bsB [44]) M HEM.out)
     clear ON bN oN hat d0 d1 d2 d3 d4 d5 d6 d7 d8 kl
     go_wp2_with fail
     refine WS.out.mono ?_
     rintro e4 M2 ⟨rfl,hb⟩
     have HEF:=zH (HEM.out.below hb)
     have HOO:=zH (HOF.out.trans (Out.of hb))
     clear hb WS
     go_wp2_with fail
     exact bodyPost_ret (v:=.slice q2 n2 c2) (by simp[results,Tryz.results34,go_sem]) rfl (RAns.mkErr HRES.out HOO.out ⟨_,_,_,rfl⟩ HEF.out)
    | ok x r =>
     rw[hr] at hA2
     obtain⟨hO2,v,hv,-,⟨⟨⟨hop,⟨hvk,hvn,hvs⟩,hrel,hcol,hn,hs,hq,hlen,hc⟩,rfl,hx⟩,hR2⟩⟩:=hA2.ok rfl
     obtain rfl:=hv
     have HQ2:=zH (show listW z one (L++[x]) r=res by rw[← HQ.out,hr];rfl)
     have OWY:=zH (OWN0.out.kept hO2 (fun j (hj:j=p) e=>by have:=(OWN0.out.lt j e).1;omega))
     have RELY:=zH (fun (j:Nat) (r:RawE) (x:Ex) hr hx=>elE_ok.on hO2.size (fun g hg hl=>hO2.block g hl (fun (e:g=p)=>by have:=hg.1;omega)) (fun _ h _=>h) x r (HREL.out j r x hr hx))
     have OY:=zH (OV0.out.trans hO2)
     have hwY:=OY.out.size
     have HRY:=zH hR2
     have HXY:=zH hx
     have hWY:=hO2.size
     clear hA2 hO2 hR2 hx CN hr
     obtain⟨Y2,hY2⟩:∃ V0,V0=Y.alloc (.cells #[.int .i64 hop,.int .i64 hvk,.int .i64 hvn,.string hvs,.int .i64 hrel,.int .i64 hcol,.int .i64 hn,.string hs,.slice hq hlen hc] 44):=⟨_,rfl⟩
     have bY2:Below Y.heap.size Y Y2:=by rw[hY2];exact ext_alloc (ext_refl _) _
     have kY2:BkA Y2 Y.heap.size (RawE.cells ⟨hop,⟨hvk,hvn,hvs⟩,hrel,hcol,hn,hs,hq,hlen,hc⟩):=by rw[hY2];exact BkA.new Y (RawE.cells ⟨hop,⟨hvk,hvn,hvs⟩,hrel,hcol,hn,hs,hq,hlen,hc⟩) 44
     have HY2:=zH hY2
     obtain⟨d0,d1,d2,d3,d4,d5,d6,d7,d8⟩:=kY2.c9_ rfl
     have kl:=kY2.lt
     have OW2:=zH (OWY.out.later bY2)
     have b1:Below Y2.heap.size Y2 (Y2.alloc (.cells #[.int .i64 hop,.int .i64 hvk,.int .i64 hvn,.string hvs,.int .i64 hrel,.int .i64 hcol,.int .i64 hn,.string hs,.slice hq hlen hc] 44)):=ext_alloc (ext_refl _) _
     have HBU:=zH (bY2.trans (b1.mono bY2.size))
     have OWU:=zH (OW2.out.later b1)
     have hsU:w.heap.size≤(Y2.alloc (.cells #[.int .i64 hop,.int .i64 hvk,.int .i64 hvn,.string hvs,.int .i64 hrel,.int .i64 hcol,.int .i64 hn,.string hs,.slice hq hlen hc] 44)).heap.size:=Nat.le_trans hwY HBU.out.size
     have KR:=zH (room9 HN9.out)
     have HSU:=zH hsU
     clear hY2 bY2 kY2 b1 hsU
     go_upto_region 5 with fail
     rw[← HY2.out]
     clear HY2
     go_wp2_with (at_builtin;go_must (refine wp_append_at rfl _ _ 36 44 rfl Tryz.underlying36 _ 104 Tryz.info_expr rfl (by omega) elE_ok.len RawE.one w.heap.size _ K rfl OWU.out _ 1 1 [⟨hop,⟨hvk,hvn,hvs⟩,hrel,hcol,hn,hs,hq,hlen,hc⟩] rfl rfl 0 _ (one_block elE_ok.len 44 #[.int .i64 hop,.int .i64 hvk,.int .i64 hvn,.string hvs,.int .i64 hrel,.int .i64 hcol,.int .i64 hn,.string hs,.slice hq hlen hc] ⟨hop,⟨hvk,hvn,hvs⟩,hrel,hcol,hn,hs,hq,hlen,hc⟩ rfl _ rfl) ?kr ?ka ?kb ?_))
     case kr=>exact KR.out.1
     case ka=>exact KR.out.2
     case kb=>exact HSU.out
     intro v2 M ON bN oN hat
     obtain⟨q2,c2,hv2,-⟩:=OwnF.arr elE_ok.len ON
     obtain⟨n2,hn2⟩:∃ m,m=(K++[(⟨hop,⟨hvk,hvn,hvs⟩,hrel,hcol,hn,hs,hq,hlen,hc⟩:RawE)]).length:=⟨_,rfl⟩
     rw[← hn2] at hv2
     subst hv2
     clear hn2
     have RELU:=fun (j:Nat) (r:RawE) (x:Ex) hr hx=>elE_ok.on HBU.out.size (fun g hg hl=>HBU.out.block g hl) (fun _ h _=>h) x r (RELY.out j r x hr hx)
     have GR:=zH (LsO.grown elE_ok (W:=W) (x:=x) (L:=L) HKL.out RELU (fun k e=>(OWN0.out.lt k e).2) (elE_ok.on (Q:=fun g=>W.heap.size≤g) HBU.out.size (fun g hg hl=>HBU.out.block g hl) (fun g hg _=>hg) x ⟨hop,⟨hvk,hvn,hvs⟩,hrel,hcol,hn,hs,hq,hlen,hc⟩ HXY.out) hwW (Nat.le_trans hWY HBU.out.size) ON oN (by rcases hat with h | h;exact .inl h;exact .inr (by simpa using h)))
     have HRM:=(HRY.out.below HBU.out).outs oN (fun j e=>by have:=(OWU.out.lt j e).1;omega)
     have HOF:=zH (Out.down (((OY.out.up (N:=w.heap.size)).trans (Out.of HBU.out)).trans (oN.mono fun j _ hj=>.inr (OWU.out.lt j hj).1)))
     have hlY:rleft M p=rleft Y p:=by rw[HRM.left,HRY.out.left]
     have HLM:=zH (show rleft M p≤rleft W p by rw[hlY,HLW.out];exact HLF.out)
     have HON:=zH ON
     clear ON bN oN hat RELU d0 d1 d2 d3 d4 d5 d6 d7 d8 kl hlY
     rcases HRM.sign (s:=[44]) (by decide) with ⟨t,r2,rfl,h1,hc⟩ |⟨h1,hc⟩
     ·have WS:=zH (rsign_yes p z k T t r2 [44] M HRM hc)
      have HQ3:=zH (show hdF z one (L++[x]) r2=res by rw[← HQ2.out,listW_eq HK.out,if_pos h1];rfl)
      have HLT:=zH (show r2.length+1<rleft W p from by have h:=HLM.out;rw[HRM.left] at h;simp only[List.length_cons] at h;omega)
      clear HRM hc h1
      go_wp2_with fail
      refine WS.out.mono ?_
      rintro e4 M2 ⟨rfl,hR3,hO3⟩
      have hm:=hR3.left
      have HRR:=zH hR3
      have HOO:=zH (HOF.out.trans hO3)
      have GR2:=zH (GR.out.outs elE_ok hO3 (fun j (hj:j=p) hl=>by omega))
      have HLL:=zH (show (L++[x]).length≤8 by have h1:=HKL.out;have h2:=HN7.out;simp;omega)
      have HMM:=zH (show rleft M2 p<rleft W p by rw[hm];exact HLT.out)
      clear hR3 hO3 WS hm
      go_wp2_with fail
      go_roundw
      case rel =>
       obtain⟨K3,k1,k2,k3⟩:=GR2.out.own
       exact⟨K3,k1,by rw[k2];exact HLL.out,HOO.out,.inl ⟨L++[x],r2,HRR.out,k2,k3,HQ3.out⟩⟩
      case measure=>exact HMM.out
     ·have WS:=zH (rsign_no p z k T r [44] M HRM hc)
      have HQ3:=zH (show res=.ok (L++[x]) r by rw[← HQ2.out,listW_eq HK.out,if_neg (by rw[h1];decide)])
      have HRM:=zH HRM
      clear hc h1
      go_wp2_with fail
      refine WS.out.mono ?_
      rintro e4 M2 ⟨rfl,hb⟩
      have HRR:=zH (HRM.out.below hb)
      have HOO:=zH (HOF.out.trans (Out.of hb))
      have GR2:=zH (GR.out.outs elE_ok (Out.of (S:=fun _=>False) hb) (fun j h _=>h.elim))
      clear hb WS
      go_wp2_with fail
      obtain⟨q9,c9,e9,l9,-,m9⟩:=GR2.out.read elE_ok
      have hqq:=e9
      exact bodyPost_ret (v:=.slice q2 n2 c2) (by simp[results,Tryz.results34,go_sem]) rfl (RAns.mkOk HQ3.out HOO.out ⟨_,_,_,rfl⟩ ⟨q9,c9,e9,l9,lsm_x m9⟩ HRR.out)
  ·have HRES:=zH hres
   clear hres hS
   by_cases h8:n=8
   ·have e8:((n:Int) == 8)=true:=by rw[beq_iff_eq];omega
    have NO:=zH (rno_more p z T er a 5 W hE)
    have HE:=zH hE
    clear hE hn h8
    go_wp2_with fail
    refine NO.out.mono ?_
    rintro e1 V0 ⟨rfl,hb⟩
    have OWN0:=zH (OWNW.out.later hb)
    have OV0:=zH (OW.out.trans (Out.of hb))
    have CN:=zH (HC.out (.err er a) V0 (.inr ⟨er,a,rfl,HE.out.below hb⟩))
    clear hb NO e8 HE
    go_wp2_with fail
    refine CN.out.mono ?_
    intro e2 Y hA2
    obtain⟨hO2,v,rfl,⟨⟨hop,⟨hvk,hvn,hvs⟩,hrel,hcol,hn,hs,hq,hlen,hc⟩,rfl⟩,hE2⟩:=hA2.err rfl
    have OWY:=zH (OWN0.out.kept hO2 (fun j (hj:j=p) e=>by have:=(OWN0.out.lt j e).1;omega))
    have OY:=zH (OV0.out.trans hO2)
    have hwY:=OY.out.size
    have HEY:=zH hE2
    clear hA2 hO2 hE2 CN
    obtain⟨Y2,hY2⟩:∃ V0,V0=Y.alloc (.cells #[.int .i64 hop,.int .i64 hvk,.int .i64 hvn,.string hvs,.int .i64 hrel,.int .i64 hcol,.int .i64 hn,.string hs,.slice hq hlen hc] 44):=⟨_,rfl⟩
    have bY2:Below Y.heap.size Y Y2:=by rw[hY2];exact ext_alloc (ext_refl _) _
    have kY2:BkA Y2 Y.heap.size (RawE.cells ⟨hop,⟨hvk,hvn,hvs⟩,hrel,hcol,hn,hs,hq,hlen,hc⟩):=by rw[hY2];exact BkA.new Y (RawE.cells ⟨hop,⟨hvk,hvn,hvs⟩,hrel,hcol,hn,hs,hq,hlen,hc⟩) 44
    have HY2:=zH hY2
    obtain⟨d0,d1,d2,d3,d4,d5,d6,d7,d8⟩:=kY2.c9_ rfl
    have kl:=kY2.lt
    have OW2:=zH (OWY.out.later bY2)
    have b1:Below Y2.heap.size Y2 (Y2.alloc (.cells #[.int .i64 hop,.int .i64 hvk,.int .i64 hvn,.string hvs,.int .i64 hrel,.int .i64 hcol,.int .i64 hn,.string hs,.slice hq hlen hc] 44)):=ext_alloc (ext_refl _) _
    have HBU:=zH (bY2.trans (b1.mono bY2.size))
    have OWU:=zH (OW2.out.later b1)
    have hsU:w.heap.size≤(Y2.alloc (.cells #[.int .i64 hop,.int .i64 hvk,.int .i64 hvn,.string hvs,.int .i64 hrel,.int .i64 hcol,.int .i64 hn,.string hs,.slice hq hlen hc] 44)).heap.size:=Nat.le_trans hwY HBU.out.size
    have KR:=zH (room9 HN9.out)
    have HSU:=zH hsU
    clear hY2 bY2 kY2 b1 hsU
    go_upto_region 5 with fail
    rw[← HY2.out]
    clear HY2
    go_wp2_with (at_builtin;go_must (refine wp_append_at rfl _ _ 36 44 rfl Tryz.underlying36 _ 104 Tryz.info_expr rfl (by omega) elE_ok.len RawE.one w.heap.size _ K rfl OWU.out _ 1 1 [⟨hop,⟨hvk,hvn,hvs⟩,hrel,hcol,hn,hs,hq,hlen,hc⟩] rfl rfl 0 _ (one_block elE_ok.len 44 #[.int .i64 hop,.int .i64 hvk,.int .i64 hvn,.string hvs,.int .i64 hrel,.int .i64 hcol,.int .i64 hn,.string hs,.slice hq hlen hc] ⟨hop,⟨hvk,hvn,hvs⟩,hrel,hcol,hn,hs,hq,hlen,hc⟩ rfl _ rfl) ?kr ?ka ?kb ?_))
    case kr=>exact KR.out.1
    case ka=>exact KR.out.2
    case kb=>exact HSU.out
    intro v2 M ON bN oN hat
    obtain⟨q2,c2,hv2,-⟩:=OwnF.arr elE_ok.len ON
    obtain⟨n2,hn2⟩:∃ m,m=(K++[(⟨hop,⟨hvk,hvn,hvs⟩,hrel,hcol,hn,hs,hq,hlen,hc⟩:RawE)]).length:=⟨_,rfl⟩
    rw[← hn2] at hv2
    subst hv2
    clear hn2
    have HEM:=zH ((HEY.out.below HBU.out).outs oN (fun j e=>by have:=(OWU.out.lt j e).1;omega))
    have HOF:=zH (Out.down (((OY.out.up (N:=w.heap.size)).trans (Out.of HBU.out)).trans (oN.mono fun j _ hj=>.inr (OWU.out.lt j hj).1)))
    have WS:=zH (rsign_err p z T er a (bsB [44]) M HEM.out)
    clear ON bN oN hat d0 d1 d2 d3 d4 d5 d6 d7 d8 kl
    go_wp2_with fail
    refine WS.out.mono ?_
    rintro e4 M2 ⟨rfl,hb⟩
    have HEF:=zH (HEM.out.below hb)
    have HOO:=zH (HOF.out.trans (Out.of hb))
    clear hb WS
    go_wp2_with fail
    exact bodyPost_ret (v:=.slice q2 n2 c2) (by simp[results,Tryz.results34,go_sem]) rfl (RAns.mkErr HRES.out HOO.out ⟨_,_,_,rfl⟩ HEF.out)
   ·have e8:((n:Int) == 8)=false:=by rw[beq_eq_false_iff_ne];omega
    have OWN0:=OWNW
    have OV0:=OW
    have CN:=zH (HC.out (.err er a) W (.inr ⟨er,a,rfl,hE⟩))
    clear hE hn h8
    go_wp2_with fail
    refine CN.out.mono ?_
    intro e2 Y hA2
    obtain⟨hO2,v,rfl,⟨⟨hop,⟨hvk,hvn,hvs⟩,hrel,hcol,hn,hs,hq,hlen,hc⟩,rfl⟩,hE2⟩:=hA2.err rfl
    have OWY:=zH (OWN0.out.kept hO2 (fun j (hj:j=p) e=>by have:=(OWN0.out.lt j e).1;omega))
    have OY:=zH (OV0.out.trans hO2)
    have hwY:=OY.out.size
    have HEY:=zH hE2
    clear hA2 hO2 hE2 CN
    obtain⟨Y2,hY2⟩:∃ V0,V0=Y.alloc (.cells #[.int .i64 hop,.int .i64 hvk,.int .i64 hvn,.string hvs,.int .i64 hrel,.int .i64 hcol,.int .i64 hn,.string hs,.slice hq hlen hc] 44):=⟨_,rfl⟩
    have bY2:Below Y.heap.size Y Y2:=by rw[hY2];exact ext_alloc (ext_refl _) _
    have kY2:BkA Y2 Y.heap.size (RawE.cells ⟨hop,⟨hvk,hvn,hvs⟩,hrel,hcol,hn,hs,hq,hlen,hc⟩):=by rw[hY2];exact BkA.new Y (RawE.cells ⟨hop,⟨hvk,hvn,hvs⟩,hrel,hcol,hn,hs,hq,hlen,hc⟩) 44
    have HY2:=zH hY2
    obtain⟨d0,d1,d2,d3,d4,d5,d6,d7,d8⟩:=kY2.c9_ rfl
    have kl:=kY2.lt
    have OW2:=zH (OWY.out.later bY2)
    have b1:Below Y2.heap.size Y2 (Y2.alloc (.cells #[.int .i64 hop,.int .i64 hvk,.int .i64 hvn,.string hvs,.int .i64 hrel,.int .i64 hcol,.int .i64 hn,.string hs,.slice hq hlen hc] 44)):=ext_alloc (ext_refl _) _
    have HBU:=zH (bY2.trans (b1.mono bY2.size))
    have OWU:=zH (OW2.out.later b1)
    have hsU:w.heap.size≤(Y2.alloc (.cells #[.int .i64 hop,.int .i64 hvk,.int .i64 hvn,.string hvs,.int .i64 hrel,.int .i64 hcol,.int .i64 hn,.string hs,.slice hq hlen hc] 44)).heap.size:=Nat.le_trans hwY HBU.out.size
    have KR:=zH (room9 HN9.out)
    have HSU:=zH hsU
    clear hY2 bY2 kY2 b1 hsU
    go_upto_region 5 with fail
    rw[← HY2.out]
    clear HY2
    go_wp2_with (at_builtin;go_must (refine wp_append_at rfl _ _ 36 44 rfl Tryz.underlying36 _ 104 Tryz.info_expr rfl (by omega) elE_ok.len RawE.one w.heap.size _ K rfl OWU.out _ 1 1 [⟨hop,⟨hvk,hvn,hvs⟩,hrel,hcol,hn,hs,hq,hlen,hc⟩] rfl rfl 0 _ (one_block elE_ok.len 44 #[.int .i64 hop,.int .i64 hvk,.int .i64 hvn,.string hvs,.int .i64 hrel,.int .i64 hcol,.int .i64 hn,.string hs,.slice hq hlen hc] ⟨hop,⟨hvk,hvn,hvs⟩,hrel,hcol,hn,hs,hq,hlen,hc⟩ rfl _ rfl) ?kr ?ka ?kb ?_))
    case kr=>exact KR.out.1
    case ka=>exact KR.out.2
    case kb=>exact HSU.out
    intro v2 M ON bN oN hat
    obtain⟨q2,c2,hv2,-⟩:=OwnF.arr elE_ok.len ON
    obtain⟨n2,hn2⟩:∃ m,m=(K++[(⟨hop,⟨hvk,hvn,hvs⟩,hrel,hcol,hn,hs,hq,hlen,hc⟩:RawE)]).length:=⟨_,rfl⟩
    rw[← hn2] at hv2
    subst hv2
    clear hn2
    have HEM:=zH ((HEY.out.below HBU.out).outs oN (fun j e=>by have:=(OWU.out.lt j e).1;omega))
    have HOF:=zH (Out.down (((OY.out.up (N:=w.heap.size)).trans (Out.of HBU.out)).trans (oN.mono fun j _ hj=>.inr (OWU.out.lt j hj).1)))
    have WS:=zH (rsign_err p z T er a (bsB [44]) M HEM.out)
    clear ON bN oN hat d0 d1 d2 d3 d4 d5 d6 d7 d8 kl
    go_wp2_with fail
    refine WS.out.mono ?_
    rintro e4 M2 ⟨rfl,hb⟩
    have HEF:=zH (HEM.out.below hb)
    have HOO:=zH (HOF.out.trans (Out.of hb))
    clear hb WS
    go_wp2_with fail
    exact bodyPost_ret (v:=.slice q2 n2 c2) (by simp[results,Tryz.results34,go_sem]) rfl (RAns.mkErr HRES.out HOO.out ⟨_,_,_,rfl⟩ HEF.out)
end Go.Proofs.YtapbglhjamddbaaGreatDoor
