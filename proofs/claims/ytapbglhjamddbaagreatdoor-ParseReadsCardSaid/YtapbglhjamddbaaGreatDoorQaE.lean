/- A part of the proof. -/
import Derived.Test.YtapbglhjamddbaaGreatDoorQaD
import Derived.Recover
import Derived.Defers
import Derived.Test.YtapbglhjamddbaaGreatDoorLcF
import Derived.Test.YtapbglhjamddbaaGreatDoorHd
set_option linter.unusedSimpArgs false
set_option linter.unusedVariables false
namespace Go.Proofs.YtapbglhjamddbaaGreatDoor
open Go.RowKit Go.Deep
set_option maxRecDepth 100000
abbrev zSel:List Value:=[.bool false,.slice none 0 0,.slice none 0 0,.slice none 0 0,.slice none 0 0]
def SlV (b:Nat) (w:World) (x:Sel) (v:Value):Prop:=∃ r:RawS,v=.agg #[.bool r.d,.slice r.i.q r.i.n r.i.c,.slice r.f.q r.f.n r.f.c,.slice r.w.q r.w.n r.w.c,.slice r.g.q r.g.n r.g.c]∧elS.rel w (fun g=>b≤g) x r
theorem Tryz.enter_item (args:Array Value) (w:World):(callFunc 50 args).run Tryz.prog w=.ok (.enter 50 args) w:=by kernel_rfl
theorem Tryz.enter_or (args:Array Value) (w:World):(callFunc 52 args).run Tryz.prog w=.ok (.enter 52 args) w:=by kernel_rfl
theorem set5 {X:World} {g:Nat} {u0 u1 u2 u3 u4:Value} (h:BkA X g [u0,u1,u2,u3,u4]) (k:Nat) (u:Value) (hk:k<5):BkA (X.setCell ⟨g,k,none⟩ u) g ([u0,u1,u2,u3,u4].set k u):=by
 have o:=Out.set (S:=fun j=>j=g) (a:=X) ⟨g,k,none⟩ u rfl
 refine⟨Nat.lt_of_lt_of_le h.lt o.size,fun j v hv=>?_,fun i=>by rw[World.frozen?_setCell];exact h.fz i⟩
 by_cases hj:j=k
 ·subst hj
  rw[List.getElem?_set_self (by simpa using hk)] at hv
  cases hv
  obtain⟨u',hu'⟩:∃ u',[u0,u1,u2,u3,u4][j]?=some u':=⟨_,List.getElem?_eq_getElem (by simpa using hk)⟩
  exact cell_set_self (h.c j u' hu')
 ·rw[List.getElem?_set_ne (fun e=>hj e.symm)] at hv
  rw[World.cell?_setCell_other _ _ _ _ (by first |(simp;done) |(simp;omega))]
  exact h.c j v hv
structure SW (w W:World) (p z k gs:Nat) (l:List Tok) (s:Sel) (r:RawS):Prop where
 st:PSt W p z l k
 res:BkA W w.heap.size zSel
 blk:BkA W gs r.cells
 rel:elS.rel W (fun g=>gs<g) s r
 out:Out (fun j=>j=p∨w.heap.size≤j) w W
 lt:p<w.heap.size
 gt:w.heap.size<gs
theorem SW.call {w W W':World} {p z k gs:Nat} {l l':List Tok} {s:Sel} {r:RawS} (h:SW w W p z k gs l s r) (o:Out (fun j=>j=p) W W') (hP:PSt W' p z l' k):SW w W' p z k gs l' s r:=by
 have h1:=h.lt
 have h2:=h.gt
 exact⟨hP,h.res.outs o (by omega),h.blk.outs o (by omega),elS_ok.on o.size (fun g hg hl=>o.block g hl (fun (e:g=p)=>by omega)) (fun _ h _=>h) _ _ h.rel,h.out.trans o.up,h.lt,h.gt⟩
theorem SW.below {w W W':World} {p z k gs:Nat} {l:List Tok} {s:Sel} {r:RawS} (h:SW w W p z k gs l s r) (o:Below W.heap.size W W'):SW w W' p z k gs l s r:=h.call (Out.of o) (h.st.below o)
theorem SW.items {w W:World} {p z k gs:Nat} {l:List Tok} {s:Sel} {r:RawS} (h:SW w W p z k gs l s r) {L:List It} {q:Option Addr} {n c:Nat} (hn:n=L.length) (hc:n≤c) (hL:LsM elI W (fun g=>gs<g) q L):SW w (W.setCell ⟨gs,1,none⟩ (.slice q n c)) p z k gs l { s with items:=L } { r with i:=⟨q,n,c⟩ }:=by
 have h1:=h.lt
 have h2:=h.gt
 have o:=Out.set (S:=fun j=>j=gs) (a:=W) ⟨gs,1,none⟩ (.slice q n c) rfl
 have hr:elS.rel W (fun g=>gs<g) { s with items:=L } { r with i:=⟨q,n,c⟩ }:=⟨h.rel.1,⟨hn,hc,hL⟩,h.rel.2.2.1,h.rel.2.2.2.1,h.rel.2.2.2.2⟩
 exact⟨h.st.outs o (fun j hj=>by omega),h.res.outs o (by omega),set5 h.blk 1 _ (by decide),elS_ok.on o.size (fun g hg hl=>o.block g hl (fun (e:g=gs)=>by omega)) (fun _ h _=>h) _ _ hr,h.out.trans (o.mono fun j _ hj=>.inr (by omega)),h.lt,h.gt⟩
theorem SW.froms {w W:World} {p z k gs:Nat} {l:List Tok} {s:Sel} {r:RawS} (h:SW w W p z k gs l s r) {L:List Fr} {q:Option Addr} {n c:Nat} (hn:n=L.length) (hc:n≤c) (hL:LsM elF W (fun g=>gs<g) q L):SW w (W.setCell ⟨gs,2,none⟩ (.slice q n c)) p z k gs l { s with froms:=L } { r with f:=⟨q,n,c⟩ }:=by
 have h1:=h.lt
 have h2:=h.gt
 have o:=Out.set (S:=fun j=>j=gs) (a:=W) ⟨gs,2,none⟩ (.slice q n c) rfl
 have hr:elS.rel W (fun g=>gs<g) { s with froms:=L } { r with f:=⟨q,n,c⟩ }:=⟨h.rel.1,h.rel.2.1,⟨hn,hc,hL⟩,h.rel.2.2.2.1,h.rel.2.2.2.2⟩
 exact⟨h.st.outs o (fun j hj=>by omega),h.res.outs o (by omega),set5 h.blk 2 _ (by decide),elS_ok.on o.size (fun g hg hl=>o.block g hl (fun (e:g=gs)=>by omega)) (fun _ h _=>h) _ _ hr,h.out.trans (o.mono fun j _ hj=>.inr (by omega)),h.lt,h.gt⟩
theorem SW.group {w W:World} {p z k gs:Nat} {l:List Tok} {s:Sel} {r:RawS} (h:SW w W p z k gs l s r) {L:List Ex} {q:Option Addr} {n c:Nat} (hn:n=L.length) (hc:n≤c) (hL:ExLP W (fun g=>gs<g) q 0 L):SW w (W.setCell ⟨gs,4,none⟩ (.slice q n c)) p z k gs l { s with group:=L } { r with g:=⟨q,n,c⟩ }:=by
 have h1:=h.lt
 have h2:=h.gt
 have o:=Out.set (S:=fun j=>j=gs) (a:=W) ⟨gs,4,none⟩ (.slice q n c) rfl
 have hr:elS.rel W (fun g=>gs<g) { s with group:=L } { r with g:=⟨q,n,c⟩ }:=⟨h.rel.1,h.rel.2.1,h.rel.2.2.1,h.rel.2.2.2.1,⟨hn,hc,hL⟩⟩
 exact⟨h.st.outs o (fun j hj=>by omega),h.res.outs o (by omega),set5 h.blk 4 _ (by decide),elS_ok.on o.size (fun g hg hl=>o.block g hl (fun (e:g=gs)=>by omega)) (fun _ h _=>h) _ _ hr,h.out.trans (o.mono fun j _ hj=>.inr (by omega)),h.lt,h.gt⟩
theorem SW.cond {w W:World} {p z k gs:Nat} {l:List Tok} {s:Sel} {r:RawS} (h:SW w W p z k gs l s r) {x:Ex} {e:RawE} (hx:ExMP W (fun g=>gs<g) x e.cells) (hgs:gs<W.heap.size):SW w ((W.setCell ⟨gs,3,none⟩ (.slice (some ⟨W.heap.size,0,none⟩) 1 1)).alloc (.cells e.cells.toArray 44)) p z k gs l { s with where_:=[x] } { r with w:=⟨some ⟨W.heap.size,0,none⟩,1,1⟩ }:=by
 have h1:=h.lt
 have h2:=h.gt
 have o:=Out.set (S:=fun j=>j=gs) (a:=W) ⟨gs,3,none⟩ (.slice (some ⟨W.heap.size,0,none⟩) 1 1) rfl
 have NS:=set5 h.blk 3 (.slice (some ⟨W.heap.size,0,none⟩) 1 1) (by decide)
 have hsz:(W.setCell ⟨gs,3,none⟩ (.slice (some ⟨W.heap.size,0,none⟩) 1 1)).heap.size=W.heap.size:=by simp[World.setCell]
 obtain⟨U,hU⟩:∃ U,U=W.setCell ⟨gs,3,none⟩ (.slice (some ⟨W.heap.size,0,none⟩) 1 1):=⟨_,rfl⟩
 rw[← hU] at o NS hsz ⊢
 have b:=ext_alloc (ext_refl U) (.cells e.cells.toArray 44)
 have NE:=BkA.new U e.cells 44
 rw[hsz] at NE
 have on:=fun (g:Nat) (hg:gs<g) (hl:g<W.heap.size)=>(b.block g (Nat.lt_of_lt_of_le hl o.size)).trans (o.block g hl (fun (e:g=gs)=>by omega))
 have hr:=elS_ok.on (Q:=fun g=>gs<g) (Nat.le_trans o.size b.size) on (fun _ h _=>h) _ _ h.rel
 exact⟨(h.st.outs o (fun j hj=>by omega)).below b,(h.res.outs o (by omega)).on b,NS.on b,⟨hr.1,hr.2.1,hr.2.2.1,⟨rfl,Nat.le_refl _,ExLP.one (ExMP.on (Nat.le_trans o.size b.size) on (fun _ h _=>h) _ _ hx) NE.lt hgs NE.c⟩,hr.2.2.2.2⟩,(h.out.trans (o.mono fun j _ hj=>.inr (by omega))).trans (Out.of b),h.lt,h.gt⟩
set_option maxHeartbeats 16000000 in
theorem sel_main_true (p z k ahead:Nat) (orr:Rd Ex) (hS:Shr orr) (hC:RdC 52 p z k orr) (t0 td:Tok) (l:List Tok) (hs:hSees kwSelect (t0 :: td :: l)=true) (ha:ahead≠4) (hdi:hSees kwDistinct (td :: l)=true) (w:World) (h:PSt w p z (t0 :: td :: l) k):Calls Tryz.prog 20 #[.pointer (some ⟨p,0,none⟩),.int .i64 (ahead:Int)] w (Ans SlV p z k (bSel z orr ahead (t0 :: td :: l)) w):=by
 have lp:=h.lt
 have b0:Below w.heap.size w (w.alloc (.cells zSel.toArray 38)):=ext_alloc (ext_refl _) _
 have N0:=zH (BkA.new w zSel 38)
 have HP0:=zH (h.below b0)
 have B0:=zH b0
 have HB:=zH (show bSel z orr ahead (t0 :: td :: l)=bSel2 z orr (td :: l) from (if_pos hs).trans (if_neg ha))
 have HB2:=zH (show bSel z orr ahead (t0 :: td :: l)=(listP z (bItem z orr) l).bind fun i r=>need z kwFrom r fun r2=>(bTables z orr r2).bind fun f r3=>(bWhere orr r3).bind fun w r4=>(bGroup z orr r4).map fun g=>⟨true,i,f,w,g⟩ by
  rw[HB.out]
  unfold bSel2
  rw[show bDist (td :: l)=(true,l) from if_pos hdi])
 have HCC:=zH hC
 have HSH:=zH hS
 have ND:=zH (need_yes p z k t0 (td :: l) kwSelect _ HP0.out hs)
 have HDI:=zH hdi
 have i4:((ahead:Int) == 4)=false:=by rw[beq_eq_false_iff_ne];omega
 have hmf:=Tryz.mkFunc
 obtain⟨BS,hBS⟩:∃ B,B=bSel z orr ahead (t0 :: td :: l):=⟨_,rfl⟩
 rw[← hBS] at HB HB2 ⊢
 obtain⟨kd0,n0,a0,tx0⟩:=t0
 clear hBS
 clear h b0 hs ha hdi hC hS
 go_enter Tryz.func20,Tryz.ntmps20
 go_wp2_with fail
 refine ND.out.mono ?_
 rintro e V ⟨rfl,hP,hO⟩
 have NV:=N0.out.outs hO (by omega)
 have PV:=(Out.of (S:=fun j=>j=p∨w.heap.size≤j) B0.out).trans hO.up
 have b1:Below V.heap.size V (V.alloc (.cells #[.int .i64 (kd0:Int),.int .i64 (n0:Int),.int .i64 (a0:Int),.string (bsB tx0)] 55)):=ext_alloc (ext_refl _) _
 have HPU:=zH (hP.below b1)
 have NU:=zH (NV.on b1)
 have PU:=zH (PV.trans (Out.of b1))
 have TD:=zH (take_yes p z k td l kwDistinct _ HPU.out HDI.out)
 clear hP hO NV PV b1 ND
 go_wp2_with fail
 refine TD.out.mono ?_
 rintro e X ⟨rfl,hP,hO⟩
 have NX:=NU.out.outs hO (by omega)
 have PX:=PU.out.trans hO.up
 have HPX:=hP
 have b2:Below X.heap.size X (X.alloc (.cells #[.bool true,.slice none 0 0,.slice none 0 0,.slice none 0 0,.slice none 0 0] 38)):=ext_alloc (ext_refl _) _
 have NS:=BkA.new X [.bool true,.slice none 0 0,.slice none 0 0,.slice none 0 0,.slice none 0 0] 38
 have hwX:w.heap.size<X.heap.size:=NX.lt
 have hEm:∀ W':World,elS.rel W' (fun g=>X.heap.size<g) ⟨true,[],[],[],[]⟩ ⟨true,⟨none,0,0⟩,⟨none,0,0⟩,⟨none,0,0⟩,⟨none,0,0⟩⟩:=fun W'=>⟨rfl,⟨rfl,Nat.le_refl _,LsM.nil⟩,⟨rfl,Nat.le_refl _,LsM.nil⟩,⟨rfl,Nat.le_refl _,by rw[ExLP];trivial⟩,⟨rfl,Nat.le_refl _,by rw[ExLP];trivial⟩⟩
 have SU:=zH (show SW w (X.alloc (.cells #[.bool true,.slice none 0 0,.slice none 0 0,.slice none 0 0,.slice none 0 0] 38)) p z k X.heap.size l ⟨true,[],[],[],[]⟩ ⟨true,⟨none,0,0⟩,⟨none,0,0⟩,⟨none,0,0⟩,⟨none,0,0⟩⟩ from ⟨HPX.below b2,NX.on b2,NS,hEm _,PX.trans (Out.of b2),lp,hwX⟩)
 have LI:=zH (list_item_any 50 (bItem z orr) p z k (bItem_shr z HSH.out).keep Tryz.enter_item (fun l w h=>item_any p z k orr HCC.out l w h) l _ SU.out.st)
 have hgU:=SU.out.blk.lt
 clear hP hO NX PX HPX b2 NS hEm TD
 cases hli:listP z (bItem z orr) l with
 | err er a =>
  have HLI:=zH hli
  have HRES:=zH (show BS=.err er a by rw[HB2.out,hli];rfl)
  clear hli
  go_wp2_with fail
  refine LI.out.mono ?_
  intro e Y hA
  obtain⟨rfl,hE,hO⟩:=hA.err HLI.out
  go_wp2_with fail
  exact⟨rfl,Ans.mkErr HRES.out hE (Out.down (SU.out.out.trans hO.up))⟩
 | ok is ri =>
  have HLI:=zH hli
  have HB3:=zH (show BS=need z kwFrom ri fun r2=>(bTables z orr r2).bind fun f r3=>(bWhere orr r3).bind fun w r4=>(bGroup z orr r4).map fun g=>⟨true,is,f,w,g⟩ by rw[HB2.out,hli];rfl)
  clear hli
  go_wp2_with fail
  refine LI.out.mono ?_
  intro e Y hA
  obtain⟨⟨v,rfl,⟨qi,ci,rfl,hi1,hi2,hi3⟩⟩,hP,hO⟩:=hA.ok HLI.out
  have SY:=SU.out.call hO hP
  obtain⟨ni,hni⟩:∃ ni,ni=is.length:=⟨_,rfl⟩
  rw[← hni] at hi1 ⊢
  have SM:=zH (SY.items hni hi1 (hi3.on elI_ok (Q:=fun g=>X.heap.size<g) (Nat.le_refl _) (fun _ _ _=>rfl) (fun g hg _=>by omega)))
  have s0:=SY.blk.c 1 _ rfl
  have s1:=SY.blk.fz
  have s2:=SY.blk.lt
  clear hP hO hA hi1 hi2 hi3 SY LI hni
  go_upto_region 6 with fail
  obtain⟨M,hM⟩:∃ M,M=Y.setCell ⟨X.heap.size,1,none⟩ (.slice qi ni ci):=⟨_,rfl⟩
  rw[← hM] at SM
  rw[← hM]
  clear s0 s1 s2 hM
  cases hfr:hSees kwFrom ri with
  | false =>
   have HRES:=zH (show BS=.err 7 (hAt z ri) by rw[HB3.out];exact if_neg (by rw[hfr];decide))
   have NF:=zH (need_no p z k ri kwFrom M SM.out.st hfr)
   clear hfr
   go_wp2_with fail
   refine NF.out.mono ?_
   rintro e Z ⟨rfl,hE,hO⟩
   go_wp2_with fail
   exact⟨rfl,Ans.mkErr HRES.out hE (Out.down (SM.out.out.trans hO.up))⟩
  | true =>
   obtain⟨tf,lf,hlf,-,-⟩:=sees_cons hfr
   subst hlf
   have NF:=zH (need_yes p z k tf lf kwFrom M SM.out.st hfr)
   have HB4:=zH (show BS=(bTables z orr lf).bind fun f r3=>(bWhere orr r3).bind fun w r4=>(bGroup z orr r4).map fun g=>⟨true,is,f,w,g⟩ by rw[HB3.out];exact if_pos hfr)
   clear hfr
   go_wp2_with fail
   refine NF.out.mono ?_
   rintro e Z ⟨rfl,hP,hO⟩
   have SZ:=zH (SM.out.call hO hP)
   have TT:=zH (tables_any p z k orr HSH.out HCC.out lf Z hP)
   have hgZ:=SZ.out.blk.lt
   clear hP hO NF
   cases htb:bTables z orr lf with
   | err er a =>
    have HTB:=zH htb
    have HRES:=zH (show BS=.err er a by rw[HB4.out,htb];rfl)
    clear htb
    go_wp2_with fail
    refine TT.out.mono ?_
    intro e Q hA
    obtain⟨rfl,hE,hO⟩:=hA.err HTB.out
    go_wp2_with fail
    exact⟨rfl,Ans.mkErr HRES.out hE (Out.down (SZ.out.out.trans hO.up))⟩
   | ok fs_ rf =>
    have HTB:=zH htb
    have RES:=zH (show BS=(bWhere orr rf).bind fun w r4=>(bGroup z orr r4).map fun g=>⟨true,is,fs_,w,g⟩ by rw[HB4.out,htb];rfl)
    clear htb
    go_wp2_with fail
    refine TT.out.mono ?_
    intro e Q hA
    obtain⟨⟨v,rfl,⟨qf,cf,rfl,hf1,hf2,hf3⟩⟩,hP,hO⟩:=hA.ok HTB.out
    have SQ:=SZ.out.call hO hP
    obtain⟨nf,hnf⟩:∃ nf,nf=fs_.length:=⟨_,rfl⟩
    rw[← hnf] at hf1 ⊢
    have SR:=zH (SQ.froms hnf hf1 (hf3.on elF_ok (Q:=fun g=>X.heap.size<g) (Nat.le_refl _) (fun _ _ _=>rfl) (fun g hg _=>by omega)))
    have s0:=SQ.blk.c 2 _ rfl
    have s1:=SQ.blk.fz
    have s2:=SQ.blk.lt
    clear hP hO hA hf1 hf2 hf3 SQ TT hnf
    go_upto_region 8 with fail
    obtain⟨R,hR⟩:∃ R,R=Q.setCell ⟨X.heap.size,2,none⟩ (.slice qf nf cf):=⟨_,rfl⟩
    rw[← hR] at SR
    rw[← hR]
    clear s0 s1 s2 hR
    cases hwh:hSees kwWhere rf with
    | false =>
     have HWH:=zH (show bWhere orr rf=.ok [] rf from if_neg (by rw[hwh];decide))
     have TW:=zH (take_no p z k rf kwWhere R SR.out.st hwh)
     clear hwh
     go_wp2_with fail
     refine TW.out.mono ?_
     rintro e H0 ⟨rfl,hb⟩
     have SH:=zH (SR.out.below hb)
     clear hb TW
     cases hgr:hSees kwGroup rf with
     | false =>
      have HRES:=zH (show BS=.ok ⟨true,is,fs_,[],[]⟩ rf by rw[RES.out,HWH.out,bind_ok,show bGroup z orr rf=.ok [] rf from if_neg (by rw[hgr];decide)];rfl)
      have TG:=zH (take_no p z k rf kwGroup H0 SH.out.st hgr)
      clear hgr
      go_wp2_with fail
      refine TG.out.mono ?_
      rintro e G0 ⟨rfl,hb⟩
      have SG:=zH (SH.out.below hb)
      clear hb TG
      obtain⟨c0,c1,c2,c3,c4⟩:=SG.out.blk.c5_ rfl
      have fz:=SG.out.blk.fz
      have ltb:=SG.out.blk.lt
      obtain⟨d0,d1,d2,d3,d4⟩:=SG.out.res.c5_ rfl
      have fzr:=SG.out.res.fz
      have ltr:=SG.out.res.lt
      have o:=out5 G0 w.heap.size (.bool true) (.slice qi ni ci) (.slice qf nf cf) (.slice none 0 0) (.slice none 0 0)
      have HF:=zH (fin_st (gr:=w.heap.size) (Nat.le_refl _) lp SG.out.st SG.out.out o)
      have HV:=zH (show SlV w.heap.size _ _ (.agg #[.bool true,.slice qi ni ci,.slice qf nf cf,.slice none 0 0,.slice none 0 0]) from ⟨_,rfl,elS_ok.on o.size (fun g hg hl=>o.block g hl (fun (e:g=w.heap.size)=>by have:=SG.out.gt;omega)) (fun g hg _=>by have:=SG.out.gt;omega) _ _ SG.out.rel⟩)
      clear o
      go_wp2_with fail
      exact bodyPost_ret (v:=.agg #[.bool true,.slice qi ni ci,.slice qf nf cf,.slice none 0 0,.slice none 0 0]) (by simp[results,Tryz.results20,go_sem,d0,d1,d2,d3,d4]) rfl (Ans.mkOk HRES.out HV.out HF.out.1 HF.out.2)
     | true =>
      obtain⟨tg,lg,hlg,-,-⟩:=sees_cons hgr
      subst hlg
      have TG:=zH (take_yes p z k tg lg kwGroup H0 SH.out.st hgr)
      have HGR:=zH hgr
      clear hgr
      go_wp2_with fail
      refine TG.out.mono ?_
      rintro e G0 ⟨rfl,hPg,hOg⟩
      have SG:=zH (SH.out.call hOg hPg)
      clear hPg hOg TG
      cases hby:hSees kwBy lg with
      | false =>
       have HRES:=zH (show BS=.err 7 (hAt z lg) by rw[RES.out,HWH.out,bind_ok,show bGroup z orr (tg :: lg)=.err 7 (hAt z lg) from (if_pos HGR.out).trans (if_neg (by rw[List.tail_cons,hby];decide))];rfl)
       have NB:=zH (need_no p z k lg kwBy G0 SG.out.st hby)
       clear hby
       go_wp2_with fail
       refine NB.out.mono ?_
       rintro e G1 ⟨rfl,hE,hO⟩
       go_wp2_with fail
       exact⟨rfl,Ans.mkErr HRES.out hE (Out.down (SG.out.out.trans hO.up))⟩
      | true =>
       obtain⟨tb,lb,hlb,-,-⟩:=sees_cons hby
       subst hlb
       have NB:=zH (need_yes p z k tb lb kwBy G0 SG.out.st hby)
       have HBY:=zH hby
       clear hby
       go_wp2_with fail
       refine NB.out.mono ?_
       rintro e G1 ⟨rfl,hPb,hOb⟩
       have SG1:=zH (SG.out.call hOb hPb)
       have LX:=zH (list_expr_any 52 orr p z k HSH.out.keep Tryz.enter_or HCC.out lb G1 hPb)
       clear hPb hOb NB
       have hgG1:=SG1.out.blk.lt
       cases hlx:listP z orr lb with
       | err er a =>
        have HLX:=zH hlx
        have HRES:=zH (show BS=.err er a by rw[RES.out,HWH.out,bind_ok,show bGroup z orr (tg :: tb :: lb)=.err er a from (if_pos HGR.out).trans ((if_pos HBY.out).trans hlx)];rfl)
        clear hlx
        go_wp2_with fail
        refine LX.out.mono ?_
        intro e G2 hA
        obtain⟨rfl,hE,hO⟩:=hA.err HLX.out
        go_wp2_with fail
        exact⟨rfl,Ans.mkErr HRES.out hE (Out.down (SG1.out.out.trans hO.up))⟩
       | ok gx rg =>
        have HLX:=zH hlx
        have HRES:=zH (show BS=.ok ⟨true,is,fs_,[],gx⟩ rg by rw[RES.out,HWH.out,bind_ok,show bGroup z orr (tg :: tb :: lb)=.ok gx rg from (if_pos HGR.out).trans ((if_pos HBY.out).trans hlx)];rfl)
        clear hlx
        go_wp2_with fail
        refine LX.out.mono ?_
        intro e G2 hA
        obtain⟨⟨v,rfl,⟨qg,cg,rfl,hg1,hg2,hg3⟩⟩,hPg,hOg⟩:=hA.ok HLX.out
        have SG2:=SG1.out.call hOg hPg
        obtain⟨ng,hng⟩:∃ ng,ng=gx.length:=⟨_,rfl⟩
        rw[← hng] at hg1 ⊢
        have hEL:=(hg3.on elE_ok (Q:=fun g=>X.heap.size<g) (Nat.le_refl _) (fun _ _ _=>rfl) (fun g hg _=>by omega)).ex
        have SG3:=zH (SG2.group hng hg1 hEL)
        have s0:=SG2.blk.c 4 _ rfl
        have s1:=SG2.blk.fz
        have s2:=SG2.blk.lt
        clear hg1 hg2 hg3 hPg hOg hA LX hEL SG2 hng
        go_upto_region 13 with fail
        obtain⟨G3,hG3⟩:∃ G3,G3=G2.setCell ⟨X.heap.size,4,none⟩ (.slice qg ng cg):=⟨_,rfl⟩
        rw[← hG3] at SG3
        rw[← hG3]
        clear s0 s1 s2 hG3
        obtain⟨c0,c1,c2,c3,c4⟩:=SG3.out.blk.c5_ rfl
        have fz:=SG3.out.blk.fz
        have ltb:=SG3.out.blk.lt
        obtain⟨d0,d1,d2,d3,d4⟩:=SG3.out.res.c5_ rfl
        have fzr:=SG3.out.res.fz
        have ltr:=SG3.out.res.lt
        have o:=out5 G3 w.heap.size (.bool true) (.slice qi ni ci) (.slice qf nf cf) (.slice none 0 0) (.slice qg ng cg)
        have HF:=zH (fin_st (gr:=w.heap.size) (Nat.le_refl _) lp SG3.out.st SG3.out.out o)
        have HV:=zH (show SlV w.heap.size _ _ (.agg #[.bool true,.slice qi ni ci,.slice qf nf cf,.slice none 0 0,.slice qg ng cg]) from ⟨_,rfl,elS_ok.on o.size (fun g hg hl=>o.block g hl (fun (e:g=w.heap.size)=>by have:=SG3.out.gt;omega)) (fun g hg _=>by have:=SG3.out.gt;omega) _ _ SG3.out.rel⟩)
        clear o
        go_wp2_with fail
        exact bodyPost_ret (v:=.agg #[.bool true,.slice qi ni ci,.slice qf nf cf,.slice none 0 0,.slice qg ng cg]) (by simp[results,Tryz.results20,go_sem,d0,d1,d2,d3,d4]) rfl (Ans.mkOk HRES.out HV.out HF.out.1 HF.out.2)
    | true =>
     obtain⟨tw,lw,hlw,-,-⟩:=sees_cons hwh
     subst hlw
     have TW:=zH (take_yes p z k tw lw kwWhere R SR.out.st hwh)
     have HWT:=zH hwh
     clear hwh
     go_wp2_with fail
     refine TW.out.mono ?_
     rintro e H0 ⟨rfl,hPw,hOw⟩
     have SH:=zH (SR.out.call hOw hPw)
     have CW:=zH (HCC.out lw H0 hPw)
     have hgH0:=SH.out.blk.lt
     clear hPw hOw TW
     cases hwo:orr lw with
     | err er a =>
      have HWO:=zH hwo
      have HRES:=zH (show BS=.err er a by rw[RES.out,show bWhere orr (tw :: lw)=.err er a from (if_pos HWT.out).trans (by rw[List.tail_cons,hwo];rfl)];rfl)
      clear hwo
      go_wp2_with fail
      refine CW.out.mono ?_
      intro e H1 hA
      obtain⟨rfl,hE,hO⟩:=hA.err HWO.out
      go_wp2_with fail
      exact⟨rfl,Ans.mkErr HRES.out hE (Out.down (SH.out.out.trans hO.up))⟩
     | ok xw rw_ =>
      have HWO:=zH hwo
      have HWH:=zH (show bWhere orr (tw :: lw)=.ok [xw] rw_ from (if_pos HWT.out).trans (by rw[List.tail_cons,hwo];rfl))
      clear hwo
      go_wp2_with fail
      refine CW.out.mono ?_
      intro e H1 hA
      obtain⟨⟨v,rfl,⟨⟨fop,⟨fvk,fvn,fvs⟩,frel,fcol,fn,fs,fq,flen,fc⟩,rfl,hx⟩⟩,hPw,hOw⟩:=hA.ok HWO.out
      have SH1:=SH.out.call hOw hPw
      have hx2:=ExMP.on (Q:=fun g=>X.heap.size<g) (Nat.le_refl _) (fun _ _ _=>rfl) (fun g hg _=>by omega) _ _ hx
      have SH2:=zH (SH1.cond hx2 SH1.blk.lt)
      have s0:=SH1.blk.c 3 _ rfl
      have s1:=SH1.blk.fz
      have s2:=SH1.blk.lt
      clear hx hx2 hPw hOw hA CW SH1
      go_upto_region 10 with fail
      obtain⟨H2,hH2⟩:∃ H2,H2=(H1.setCell ⟨X.heap.size,3,none⟩ (.slice (some ⟨H1.heap.size,0,none⟩) 1 1)).alloc (.cells #[.int .i64 fop,.int .i64 fvk,.int .i64 fvn,.string fvs,.int .i64 frel,.int .i64 fcol,.int .i64 fn,.string fs,.slice fq flen fc] 44):=⟨_,rfl⟩
      have SH2:Hid (SW w H2 _ _ _ _ _ _ _):=zH (by rw[hH2];exact SH2.out)
      rw[← hH2]
      clear s0 s1 s2 hH2
      cases hgr:hSees kwGroup rw_ with
      | false =>
       have HRES:=zH (show BS=.ok ⟨true,is,fs_,[xw],[]⟩ rw_ by rw[RES.out,HWH.out,bind_ok,show bGroup z orr rw_=.ok [] rw_ from if_neg (by rw[hgr];decide)];rfl)
       have TG:=zH (take_no p z k rw_ kwGroup H2 SH2.out.st hgr)
       clear hgr
       go_wp2_with fail
       refine TG.out.mono ?_
       rintro e G0 ⟨rfl,hb⟩
       have SG:=zH (SH2.out.below hb)
       clear hb TG
       obtain⟨c0,c1,c2,c3,c4⟩:=SG.out.blk.c5_ rfl
       have fz:=SG.out.blk.fz
       have ltb:=SG.out.blk.lt
       obtain⟨d0,d1,d2,d3,d4⟩:=SG.out.res.c5_ rfl
       have fzr:=SG.out.res.fz
       have ltr:=SG.out.res.lt
       have o:=out5 G0 w.heap.size (.bool true) (.slice qi ni ci) (.slice qf nf cf) (.slice (some ⟨H1.heap.size,0,none⟩) 1 1) (.slice none 0 0)
       have HF:=zH (fin_st (gr:=w.heap.size) (Nat.le_refl _) lp SG.out.st SG.out.out o)
       have HV:=zH (show SlV w.heap.size _ _ (.agg #[.bool true,.slice qi ni ci,.slice qf nf cf,.slice (some ⟨H1.heap.size,0,none⟩) 1 1,.slice none 0 0]) from ⟨_,rfl,elS_ok.on o.size (fun g hg hl=>o.block g hl (fun (e:g=w.heap.size)=>by have:=SG.out.gt;omega)) (fun g hg _=>by have:=SG.out.gt;omega) _ _ SG.out.rel⟩)
       clear o
       go_wp2_with fail
       exact bodyPost_ret (v:=.agg #[.bool true,.slice qi ni ci,.slice qf nf cf,.slice (some ⟨H1.heap.size,0,none⟩) 1 1,.slice none 0 0]) (by simp[results,Tryz.results20,go_sem,d0,d1,d2,d3,d4]) rfl (Ans.mkOk HRES.out HV.out HF.out.1 HF.out.2)
      | true =>
       obtain⟨tg,lg,hlg,-,-⟩:=sees_cons hgr
       subst hlg
       have TG:=zH (take_yes p z k tg lg kwGroup H2 SH2.out.st hgr)
       have HGR:=zH hgr
       clear hgr
       go_wp2_with fail
       refine TG.out.mono ?_
       rintro e G0 ⟨rfl,hPg,hOg⟩
       have SG:=zH (SH2.out.call hOg hPg)
       clear hPg hOg TG
       cases hby:hSees kwBy lg with
       | false =>
        have HRES:=zH (show BS=.err 7 (hAt z lg) by rw[RES.out,HWH.out,bind_ok,show bGroup z orr (tg :: lg)=.err 7 (hAt z lg) from (if_pos HGR.out).trans (if_neg (by rw[List.tail_cons,hby];decide))];rfl)
        have NB:=zH (need_no p z k lg kwBy G0 SG.out.st hby)
        clear hby
        go_wp2_with fail
        refine NB.out.mono ?_
        rintro e G1 ⟨rfl,hE,hO⟩
        go_wp2_with fail
        exact⟨rfl,Ans.mkErr HRES.out hE (Out.down (SG.out.out.trans hO.up))⟩
       | true =>
        obtain⟨tb,lb,hlb,-,-⟩:=sees_cons hby
        subst hlb
        have NB:=zH (need_yes p z k tb lb kwBy G0 SG.out.st hby)
        have HBY:=zH hby
        clear hby
        go_wp2_with fail
        refine NB.out.mono ?_
        rintro e G1 ⟨rfl,hPb,hOb⟩
        have SG1:=zH (SG.out.call hOb hPb)
        have LX:=zH (list_expr_any 52 orr p z k HSH.out.keep Tryz.enter_or HCC.out lb G1 hPb)
        clear hPb hOb NB
        have hgG1:=SG1.out.blk.lt
        cases hlx:listP z orr lb with
        | err er a =>
         have HLX:=zH hlx
         have HRES:=zH (show BS=.err er a by rw[RES.out,HWH.out,bind_ok,show bGroup z orr (tg :: tb :: lb)=.err er a from (if_pos HGR.out).trans ((if_pos HBY.out).trans hlx)];rfl)
         clear hlx
         go_wp2_with fail
         refine LX.out.mono ?_
         intro e G2 hA
         obtain⟨rfl,hE,hO⟩:=hA.err HLX.out
         go_wp2_with fail
         exact⟨rfl,Ans.mkErr HRES.out hE (Out.down (SG1.out.out.trans hO.up))⟩
        | ok gx rg =>
         have HLX:=zH hlx
         have HRES:=zH (show BS=.ok ⟨true,is,fs_,[xw],gx⟩ rg by rw[RES.out,HWH.out,bind_ok,show bGroup z orr (tg :: tb :: lb)=.ok gx rg from (if_pos HGR.out).trans ((if_pos HBY.out).trans hlx)];rfl)
         clear hlx
         go_wp2_with fail
         refine LX.out.mono ?_
         intro e G2 hA
         obtain⟨⟨v,rfl,⟨qg,cg,rfl,hg1,hg2,hg3⟩⟩,hPg,hOg⟩:=hA.ok HLX.out
         have SG2:=SG1.out.call hOg hPg
         obtain⟨ng,hng⟩:∃ ng,ng=gx.length:=⟨_,rfl⟩
         rw[← hng] at hg1 ⊢
         have hEL:=(hg3.on elE_ok (Q:=fun g=>X.heap.size<g) (Nat.le_refl _) (fun _ _ _=>rfl) (fun g hg _=>by omega)).ex
         have SG3:=zH (SG2.group hng hg1 hEL)
         have s0:=SG2.blk.c 4 _ rfl
         have s1:=SG2.blk.fz
         have s2:=SG2.blk.lt
         clear hg1 hg2 hg3 hPg hOg hA LX hEL SG2 hng
         go_upto_region 13 with fail
         obtain⟨G3,hG3⟩:∃ G3,G3=G2.setCell ⟨X.heap.size,4,none⟩ (.slice qg ng cg):=⟨_,rfl⟩
         rw[← hG3] at SG3
         rw[← hG3]
         clear s0 s1 s2 hG3
         obtain⟨c0,c1,c2,c3,c4⟩:=SG3.out.blk.c5_ rfl
         have fz:=SG3.out.blk.fz
         have ltb:=SG3.out.blk.lt
         obtain⟨d0,d1,d2,d3,d4⟩:=SG3.out.res.c5_ rfl
         have fzr:=SG3.out.res.fz
         have ltr:=SG3.out.res.lt
         have o:=out5 G3 w.heap.size (.bool true) (.slice qi ni ci) (.slice qf nf cf) (.slice (some ⟨H1.heap.size,0,none⟩) 1 1) (.slice qg ng cg)
         have HF:=zH (fin_st (gr:=w.heap.size) (Nat.le_refl _) lp SG3.out.st SG3.out.out o)
         have HV:=zH (show SlV w.heap.size _ _ (.agg #[.bool true,.slice qi ni ci,.slice qf nf cf,.slice (some ⟨H1.heap.size,0,none⟩) 1 1,.slice qg ng cg]) from ⟨_,rfl,elS_ok.on o.size (fun g hg hl=>o.block g hl (fun (e:g=w.heap.size)=>by have:=SG3.out.gt;omega)) (fun g hg _=>by have:=SG3.out.gt;omega) _ _ SG3.out.rel⟩)
         clear o
         go_wp2_with fail
         exact bodyPost_ret (v:=.agg #[.bool true,.slice qi ni ci,.slice qf nf cf,.slice (some ⟨H1.heap.size,0,none⟩) 1 1,.slice qg ng cg]) (by simp[results,Tryz.results20,go_sem,d0,d1,d2,d3,d4]) rfl (Ans.mkOk HRES.out HV.out HF.out.1 HF.out.2)
set_option maxHeartbeats 16000000 in
theorem sel_main_false (p z k ahead:Nat) (orr:Rd Ex) (hS:Shr orr) (hC:RdC 52 p z k orr) (t0:Tok) (l:List Tok) (hs:hSees kwSelect (t0 :: l)=true) (ha:ahead≠4) (hdi:hSees kwDistinct l=false) (w:World) (h:PSt w p z (t0 :: l) k):Calls Tryz.prog 20 #[.pointer (some ⟨p,0,none⟩),.int .i64 (ahead:Int)] w (Ans SlV p z k (bSel z orr ahead (t0 :: l)) w):=by
 have lp:=h.lt
 have b0:Below w.heap.size w (w.alloc (.cells zSel.toArray 38)):=ext_alloc (ext_refl _) _
 have N0:=zH (BkA.new w zSel 38)
 have HP0:=zH (h.below b0)
 have B0:=zH b0
 have HB:=zH (show bSel z orr ahead (t0 :: l)=bSel2 z orr l from (if_pos hs).trans (if_neg ha))
 have HB2:=zH (show bSel z orr ahead (t0 :: l)=(listP z (bItem z orr) l).bind fun i r=>need z kwFrom r fun r2=>(bTables z orr r2).bind fun f r3=>(bWhere orr r3).bind fun w r4=>(bGroup z orr r4).map fun g=>⟨false,i,f,w,g⟩ by
  rw[HB.out]
  unfold bSel2
  rw[show bDist l=(false,l) from if_neg (by rw[hdi];decide)])
 have HCC:=zH hC
 have HSH:=zH hS
 have ND:=zH (need_yes p z k t0 l kwSelect _ HP0.out hs)
 have HDI:=zH hdi
 have i4:((ahead:Int) == 4)=false:=by rw[beq_eq_false_iff_ne];omega
 have hmf:=Tryz.mkFunc
 obtain⟨BS,hBS⟩:∃ B,B=bSel z orr ahead (t0 :: l):=⟨_,rfl⟩
 rw[← hBS] at HB HB2 ⊢
 obtain⟨kd0,n0,a0,tx0⟩:=t0
 clear hBS
 clear h b0 hs ha hdi hC hS
 go_enter Tryz.func20,Tryz.ntmps20
 go_wp2_with fail
 refine ND.out.mono ?_
 rintro e V ⟨rfl,hP,hO⟩
 have NV:=N0.out.outs hO (by omega)
 have PV:=(Out.of (S:=fun j=>j=p∨w.heap.size≤j) B0.out).trans hO.up
 have b1:Below V.heap.size V (V.alloc (.cells #[.int .i64 (kd0:Int),.int .i64 (n0:Int),.int .i64 (a0:Int),.string (bsB tx0)] 55)):=ext_alloc (ext_refl _) _
 have HPU:=zH (hP.below b1)
 have NU:=zH (NV.on b1)
 have PU:=zH (PV.trans (Out.of b1))
 have TD:=zH (take_no p z k l kwDistinct _ HPU.out HDI.out)
 clear hP hO NV PV b1 ND
 go_wp2_with fail
 refine TD.out.mono ?_
 rintro e X ⟨rfl,hb⟩
 have NX:=NU.out.on hb
 have PX:=PU.out.trans (Out.of hb)
 have HPX:=HPU.out.below hb
 have b2:Below X.heap.size X (X.alloc (.cells #[.bool false,.slice none 0 0,.slice none 0 0,.slice none 0 0,.slice none 0 0] 38)):=ext_alloc (ext_refl _) _
 have NS:=BkA.new X [.bool false,.slice none 0 0,.slice none 0 0,.slice none 0 0,.slice none 0 0] 38
 have hwX:w.heap.size<X.heap.size:=NX.lt
 have hEm:∀ W':World,elS.rel W' (fun g=>X.heap.size<g) ⟨false,[],[],[],[]⟩ ⟨false,⟨none,0,0⟩,⟨none,0,0⟩,⟨none,0,0⟩,⟨none,0,0⟩⟩:=fun W'=>⟨rfl,⟨rfl,Nat.le_refl _,LsM.nil⟩,⟨rfl,Nat.le_refl _,LsM.nil⟩,⟨rfl,Nat.le_refl _,by rw[ExLP];trivial⟩,⟨rfl,Nat.le_refl _,by rw[ExLP];trivial⟩⟩
 have SU:=zH (show SW w (X.alloc (.cells #[.bool false,.slice none 0 0,.slice none 0 0,.slice none 0 0,.slice none 0 0] 38)) p z k X.heap.size l ⟨false,[],[],[],[]⟩ ⟨false,⟨none,0,0⟩,⟨none,0,0⟩,⟨none,0,0⟩,⟨none,0,0⟩⟩ from ⟨HPX.below b2,NX.on b2,NS,hEm _,PX.trans (Out.of b2),lp,hwX⟩)
 have LI:=zH (list_item_any 50 (bItem z orr) p z k (bItem_shr z HSH.out).keep Tryz.enter_item (fun l w h=>item_any p z k orr HCC.out l w h) l _ SU.out.st)
 have hgU:=SU.out.blk.lt
 clear hb NX PX HPX b2 NS hEm TD
 cases hli:listP z (bItem z orr) l with
 | err er a =>
  have HLI:=zH hli
  have HRES:=zH (show BS=.err er a by rw[HB2.out,hli];rfl)
  clear hli
  go_wp2_with fail
  refine LI.out.mono ?_
  intro e Y hA
  obtain⟨rfl,hE,hO⟩:=hA.err HLI.out
  go_wp2_with fail
  exact⟨rfl,Ans.mkErr HRES.out hE (Out.down (SU.out.out.trans hO.up))⟩
 | ok is ri =>
  have HLI:=zH hli
  have HB3:=zH (show BS=need z kwFrom ri fun r2=>(bTables z orr r2).bind fun f r3=>(bWhere orr r3).bind fun w r4=>(bGroup z orr r4).map fun g=>⟨false,is,f,w,g⟩ by rw[HB2.out,hli];rfl)
  clear hli
  go_wp2_with fail
  refine LI.out.mono ?_
  intro e Y hA
  obtain⟨⟨v,rfl,⟨qi,ci,rfl,hi1,hi2,hi3⟩⟩,hP,hO⟩:=hA.ok HLI.out
  have SY:=SU.out.call hO hP
  obtain⟨ni,hni⟩:∃ ni,ni=is.length:=⟨_,rfl⟩
  rw[← hni] at hi1 ⊢
  have SM:=zH (SY.items hni hi1 (hi3.on elI_ok (Q:=fun g=>X.heap.size<g) (Nat.le_refl _) (fun _ _ _=>rfl) (fun g hg _=>by omega)))
  have s0:=SY.blk.c 1 _ rfl
  have s1:=SY.blk.fz
  have s2:=SY.blk.lt
  clear hP hO hA hi1 hi2 hi3 SY LI hni
  go_upto_region 6 with fail
  obtain⟨M,hM⟩:∃ M,M=Y.setCell ⟨X.heap.size,1,none⟩ (.slice qi ni ci):=⟨_,rfl⟩
  rw[← hM] at SM
  rw[← hM]
  clear s0 s1 s2 hM
  cases hfr:hSees kwFrom ri with
  | false =>
   have HRES:=zH (show BS=.err 7 (hAt z ri) by rw[HB3.out];exact if_neg (by rw[hfr];decide))
   have NF:=zH (need_no p z k ri kwFrom M SM.out.st hfr)
   clear hfr
   go_wp2_with fail
   refine NF.out.mono ?_
   rintro e Z ⟨rfl,hE,hO⟩
   go_wp2_with fail
   exact⟨rfl,Ans.mkErr HRES.out hE (Out.down (SM.out.out.trans hO.up))⟩
  | true =>
   obtain⟨tf,lf,hlf,-,-⟩:=sees_cons hfr
   subst hlf
   have NF:=zH (need_yes p z k tf lf kwFrom M SM.out.st hfr)
   have HB4:=zH (show BS=(bTables z orr lf).bind fun f r3=>(bWhere orr r3).bind fun w r4=>(bGroup z orr r4).map fun g=>⟨false,is,f,w,g⟩ by rw[HB3.out];exact if_pos hfr)
   clear hfr
   go_wp2_with fail
   refine NF.out.mono ?_
   rintro e Z ⟨rfl,hP,hO⟩
   have SZ:=zH (SM.out.call hO hP)
   have TT:=zH (tables_any p z k orr HSH.out HCC.out lf Z hP)
   have hgZ:=SZ.out.blk.lt
   clear hP hO NF
   cases htb:bTables z orr lf with
   | err er a =>
    have HTB:=zH htb
    have HRES:=zH (show BS=.err er a by rw[HB4.out,htb];rfl)
    clear htb
    go_wp2_with fail
    refine TT.out.mono ?_
    intro e Q hA
    obtain⟨rfl,hE,hO⟩:=hA.err HTB.out
    go_wp2_with fail
    exact⟨rfl,Ans.mkErr HRES.out hE (Out.down (SZ.out.out.trans hO.up))⟩
   | ok fs_ rf =>
    have HTB:=zH htb
    have RES:=zH (show BS=(bWhere orr rf).bind fun w r4=>(bGroup z orr r4).map fun g=>⟨false,is,fs_,w,g⟩ by rw[HB4.out,htb];rfl)
    clear htb
    go_wp2_with fail
    refine TT.out.mono ?_
    intro e Q hA
    obtain⟨⟨v,rfl,⟨qf,cf,rfl,hf1,hf2,hf3⟩⟩,hP,hO⟩:=hA.ok HTB.out
    have SQ:=SZ.out.call hO hP
    obtain⟨nf,hnf⟩:∃ nf,nf=fs_.length:=⟨_,rfl⟩
    rw[← hnf] at hf1 ⊢
    have SR:=zH (SQ.froms hnf hf1 (hf3.on elF_ok (Q:=fun g=>X.heap.size<g) (Nat.le_refl _) (fun _ _ _=>rfl) (fun g hg _=>by omega)))
    have s0:=SQ.blk.c 2 _ rfl
    have s1:=SQ.blk.fz
    have s2:=SQ.blk.lt
    clear hP hO hA hf1 hf2 hf3 SQ TT hnf
    go_upto_region 8 with fail
    obtain⟨R,hR⟩:∃ R,R=Q.setCell ⟨X.heap.size,2,none⟩ (.slice qf nf cf):=⟨_,rfl⟩
    rw[← hR] at SR
    rw[← hR]
    clear s0 s1 s2 hR
    cases hwh:hSees kwWhere rf with
    | false =>
     have HWH:=zH (show bWhere orr rf=.ok [] rf from if_neg (by rw[hwh];decide))
     have TW:=zH (take_no p z k rf kwWhere R SR.out.st hwh)
     clear hwh
     go_wp2_with fail
     refine TW.out.mono ?_
     rintro e H0 ⟨rfl,hb⟩
     have SH:=zH (SR.out.below hb)
     clear hb TW
     cases hgr:hSees kwGroup rf with
     | false =>
      have HRES:=zH (show BS=.ok ⟨false,is,fs_,[],[]⟩ rf by rw[RES.out,HWH.out,bind_ok,show bGroup z orr rf=.ok [] rf from if_neg (by rw[hgr];decide)];rfl)
      have TG:=zH (take_no p z k rf kwGroup H0 SH.out.st hgr)
      clear hgr
      go_wp2_with fail
      refine TG.out.mono ?_
      rintro e G0 ⟨rfl,hb⟩
      have SG:=zH (SH.out.below hb)
      clear hb TG
      obtain⟨c0,c1,c2,c3,c4⟩:=SG.out.blk.c5_ rfl
      have fz:=SG.out.blk.fz
      have ltb:=SG.out.blk.lt
      obtain⟨d0,d1,d2,d3,d4⟩:=SG.out.res.c5_ rfl
      have fzr:=SG.out.res.fz
      have ltr:=SG.out.res.lt
      have o:=out5 G0 w.heap.size (.bool false) (.slice qi ni ci) (.slice qf nf cf) (.slice none 0 0) (.slice none 0 0)
      have HF:=zH (fin_st (gr:=w.heap.size) (Nat.le_refl _) lp SG.out.st SG.out.out o)
      have HV:=zH (show SlV w.heap.size _ _ (.agg #[.bool false,.slice qi ni ci,.slice qf nf cf,.slice none 0 0,.slice none 0 0]) from ⟨_,rfl,elS_ok.on o.size (fun g hg hl=>o.block g hl (fun (e:g=w.heap.size)=>by have:=SG.out.gt;omega)) (fun g hg _=>by have:=SG.out.gt;omega) _ _ SG.out.rel⟩)
      clear o
      go_wp2_with fail
      exact bodyPost_ret (v:=.agg #[.bool false,.slice qi ni ci,.slice qf nf cf,.slice none 0 0,.slice none 0 0]) (by simp[results,Tryz.results20,go_sem,d0,d1,d2,d3,d4]) rfl (Ans.mkOk HRES.out HV.out HF.out.1 HF.out.2)
     | true =>
      obtain⟨tg,lg,hlg,-,-⟩:=sees_cons hgr
      subst hlg
      have TG:=zH (take_yes p z k tg lg kwGroup H0 SH.out.st hgr)
      have HGR:=zH hgr
      clear hgr
      go_wp2_with fail
      refine TG.out.mono ?_
      rintro e G0 ⟨rfl,hPg,hOg⟩
      have SG:=zH (SH.out.call hOg hPg)
      clear hPg hOg TG
      cases hby:hSees kwBy lg with
      | false =>
       have HRES:=zH (show BS=.err 7 (hAt z lg) by rw[RES.out,HWH.out,bind_ok,show bGroup z orr (tg :: lg)=.err 7 (hAt z lg) from (if_pos HGR.out).trans (if_neg (by rw[List.tail_cons,hby];decide))];rfl)
       have NB:=zH (need_no p z k lg kwBy G0 SG.out.st hby)
       clear hby
       go_wp2_with fail
       refine NB.out.mono ?_
       rintro e G1 ⟨rfl,hE,hO⟩
       go_wp2_with fail
       exact⟨rfl,Ans.mkErr HRES.out hE (Out.down (SG.out.out.trans hO.up))⟩
      | true =>
       obtain⟨tb,lb,hlb,-,-⟩:=sees_cons hby
       subst hlb
       have NB:=zH (need_yes p z k tb lb kwBy G0 SG.out.st hby)
       have HBY:=zH hby
       clear hby
       go_wp2_with fail
       refine NB.out.mono ?_
       rintro e G1 ⟨rfl,hPb,hOb⟩
       have SG1:=zH (SG.out.call hOb hPb)
       have LX:=zH (list_expr_any 52 orr p z k HSH.out.keep Tryz.enter_or HCC.out lb G1 hPb)
       clear hPb hOb NB
       have hgG1:=SG1.out.blk.lt
       cases hlx:listP z orr lb with
       | err er a =>
        have HLX:=zH hlx
        have HRES:=zH (show BS=.err er a by rw[RES.out,HWH.out,bind_ok,show bGroup z orr (tg :: tb :: lb)=.err er a from (if_pos HGR.out).trans ((if_pos HBY.out).trans hlx)];rfl)
        clear hlx
        go_wp2_with fail
        refine LX.out.mono ?_
        intro e G2 hA
        obtain⟨rfl,hE,hO⟩:=hA.err HLX.out
        go_wp2_with fail
        exact⟨rfl,Ans.mkErr HRES.out hE (Out.down (SG1.out.out.trans hO.up))⟩
       | ok gx rg =>
        have HLX:=zH hlx
        have HRES:=zH (show BS=.ok ⟨false,is,fs_,[],gx⟩ rg by rw[RES.out,HWH.out,bind_ok,show bGroup z orr (tg :: tb :: lb)=.ok gx rg from (if_pos HGR.out).trans ((if_pos HBY.out).trans hlx)];rfl)
        clear hlx
        go_wp2_with fail
        refine LX.out.mono ?_
        intro e G2 hA
        obtain⟨⟨v,rfl,⟨qg,cg,rfl,hg1,hg2,hg3⟩⟩,hPg,hOg⟩:=hA.ok HLX.out
        have SG2:=SG1.out.call hOg hPg
        obtain⟨ng,hng⟩:∃ ng,ng=gx.length:=⟨_,rfl⟩
        rw[← hng] at hg1 ⊢
        have hEL:=(hg3.on elE_ok (Q:=fun g=>X.heap.size<g) (Nat.le_refl _) (fun _ _ _=>rfl) (fun g hg _=>by omega)).ex
        have SG3:=zH (SG2.group hng hg1 hEL)
        have s0:=SG2.blk.c 4 _ rfl
        have s1:=SG2.blk.fz
        have s2:=SG2.blk.lt
        clear hg1 hg2 hg3 hPg hOg hA LX hEL SG2 hng
        go_upto_region 13 with fail
        obtain⟨G3,hG3⟩:∃ G3,G3=G2.setCell ⟨X.heap.size,4,none⟩ (.slice qg ng cg):=⟨_,rfl⟩
        rw[← hG3] at SG3
        rw[← hG3]
        clear s0 s1 s2 hG3
        obtain⟨c0,c1,c2,c3,c4⟩:=SG3.out.blk.c5_ rfl
        have fz:=SG3.out.blk.fz
        have ltb:=SG3.out.blk.lt
        obtain⟨d0,d1,d2,d3,d4⟩:=SG3.out.res.c5_ rfl
        have fzr:=SG3.out.res.fz
        have ltr:=SG3.out.res.lt
        have o:=out5 G3 w.heap.size (.bool false) (.slice qi ni ci) (.slice qf nf cf) (.slice none 0 0) (.slice qg ng cg)
        have HF:=zH (fin_st (gr:=w.heap.size) (Nat.le_refl _) lp SG3.out.st SG3.out.out o)
        have HV:=zH (show SlV w.heap.size _ _ (.agg #[.bool false,.slice qi ni ci,.slice qf nf cf,.slice none 0 0,.slice qg ng cg]) from ⟨_,rfl,elS_ok.on o.size (fun g hg hl=>o.block g hl (fun (e:g=w.heap.size)=>by have:=SG3.out.gt;omega)) (fun g hg _=>by have:=SG3.out.gt;omega) _ _ SG3.out.rel⟩)
        clear o
        go_wp2_with fail
        exact bodyPost_ret (v:=.agg #[.bool false,.slice qi ni ci,.slice qf nf cf,.slice none 0 0,.slice qg ng cg]) (by simp[results,Tryz.results20,go_sem,d0,d1,d2,d3,d4]) rfl (Ans.mkOk HRES.out HV.out HF.out.1 HF.out.2)
    | true =>
     obtain⟨tw,lw,hlw,-,-⟩:=sees_cons hwh
     subst hlw
     have TW:=zH (take_yes p z k tw lw kwWhere R SR.out.st hwh)
     have HWT:=zH hwh
     clear hwh
     go_wp2_with fail
     refine TW.out.mono ?_
     rintro e H0 ⟨rfl,hPw,hOw⟩
     have SH:=zH (SR.out.call hOw hPw)
     have CW:=zH (HCC.out lw H0 hPw)
     have hgH0:=SH.out.blk.lt
     clear hPw hOw TW
     cases hwo:orr lw with
     | err er a =>
      have HWO:=zH hwo
      have HRES:=zH (show BS=.err er a by rw[RES.out,show bWhere orr (tw :: lw)=.err er a from (if_pos HWT.out).trans (by rw[List.tail_cons,hwo];rfl)];rfl)
      clear hwo
      go_wp2_with fail
      refine CW.out.mono ?_
      intro e H1 hA
      obtain⟨rfl,hE,hO⟩:=hA.err HWO.out
      go_wp2_with fail
      exact⟨rfl,Ans.mkErr HRES.out hE (Out.down (SH.out.out.trans hO.up))⟩
     | ok xw rw_ =>
      have HWO:=zH hwo
      have HWH:=zH (show bWhere orr (tw :: lw)=.ok [xw] rw_ from (if_pos HWT.out).trans (by rw[List.tail_cons,hwo];rfl))
      clear hwo
      go_wp2_with fail
      refine CW.out.mono ?_
      intro e H1 hA
      obtain⟨⟨v,rfl,⟨⟨fop,⟨fvk,fvn,fvs⟩,frel,fcol,fn,fs,fq,flen,fc⟩,rfl,hx⟩⟩,hPw,hOw⟩:=hA.ok HWO.out
      have SH1:=SH.out.call hOw hPw
      have hx2:=ExMP.on (Q:=fun g=>X.heap.size<g) (Nat.le_refl _) (fun _ _ _=>rfl) (fun g hg _=>by omega) _ _ hx
      have SH2:=zH (SH1.cond hx2 SH1.blk.lt)
      have s0:=SH1.blk.c 3 _ rfl
      have s1:=SH1.blk.fz
      have s2:=SH1.blk.lt
      clear hx hx2 hPw hOw hA CW SH1
      go_upto_region 10 with fail
      obtain⟨H2,hH2⟩:∃ H2,H2=(H1.setCell ⟨X.heap.size,3,none⟩ (.slice (some ⟨H1.heap.size,0,none⟩) 1 1)).alloc (.cells #[.int .i64 fop,.int .i64 fvk,.int .i64 fvn,.string fvs,.int .i64 frel,.int .i64 fcol,.int .i64 fn,.string fs,.slice fq flen fc] 44):=⟨_,rfl⟩
      have SH2:Hid (SW w H2 _ _ _ _ _ _ _):=zH (by rw[hH2];exact SH2.out)
      rw[← hH2]
      clear s0 s1 s2 hH2
      cases hgr:hSees kwGroup rw_ with
      | false =>
       have HRES:=zH (show BS=.ok ⟨false,is,fs_,[xw],[]⟩ rw_ by rw[RES.out,HWH.out,bind_ok,show bGroup z orr rw_=.ok [] rw_ from if_neg (by rw[hgr];decide)];rfl)
       have TG:=zH (take_no p z k rw_ kwGroup H2 SH2.out.st hgr)
       clear hgr
       go_wp2_with fail
       refine TG.out.mono ?_
       rintro e G0 ⟨rfl,hb⟩
       have SG:=zH (SH2.out.below hb)
       clear hb TG
       obtain⟨c0,c1,c2,c3,c4⟩:=SG.out.blk.c5_ rfl
       have fz:=SG.out.blk.fz
       have ltb:=SG.out.blk.lt
       obtain⟨d0,d1,d2,d3,d4⟩:=SG.out.res.c5_ rfl
       have fzr:=SG.out.res.fz
       have ltr:=SG.out.res.lt
       have o:=out5 G0 w.heap.size (.bool false) (.slice qi ni ci) (.slice qf nf cf) (.slice (some ⟨H1.heap.size,0,none⟩) 1 1) (.slice none 0 0)
       have HF:=zH (fin_st (gr:=w.heap.size) (Nat.le_refl _) lp SG.out.st SG.out.out o)
       have HV:=zH (show SlV w.heap.size _ _ (.agg #[.bool false,.slice qi ni ci,.slice qf nf cf,.slice (some ⟨H1.heap.size,0,none⟩) 1 1,.slice none 0 0]) from ⟨_,rfl,elS_ok.on o.size (fun g hg hl=>o.block g hl (fun (e:g=w.heap.size)=>by have:=SG.out.gt;omega)) (fun g hg _=>by have:=SG.out.gt;omega) _ _ SG.out.rel⟩)
       clear o
       go_wp2_with fail
       exact bodyPost_ret (v:=.agg #[.bool false,.slice qi ni ci,.slice qf nf cf,.slice (some ⟨H1.heap.size,0,none⟩) 1 1,.slice none 0 0]) (by simp[results,Tryz.results20,go_sem,d0,d1,d2,d3,d4]) rfl (Ans.mkOk HRES.out HV.out HF.out.1 HF.out.2)
      | true =>
       obtain⟨tg,lg,hlg,-,-⟩:=sees_cons hgr
       subst hlg
       have TG:=zH (take_yes p z k tg lg kwGroup H2 SH2.out.st hgr)
       have HGR:=zH hgr
       clear hgr
       go_wp2_with fail
       refine TG.out.mono ?_
       rintro e G0 ⟨rfl,hPg,hOg⟩
       have SG:=zH (SH2.out.call hOg hPg)
       clear hPg hOg TG
       cases hby:hSees kwBy lg with
       | false =>
        have HRES:=zH (show BS=.err 7 (hAt z lg) by rw[RES.out,HWH.out,bind_ok,show bGroup z orr (tg :: lg)=.err 7 (hAt z lg) from (if_pos HGR.out).trans (if_neg (by rw[List.tail_cons,hby];decide))];rfl)
        have NB:=zH (need_no p z k lg kwBy G0 SG.out.st hby)
        clear hby
        go_wp2_with fail
        refine NB.out.mono ?_
        rintro e G1 ⟨rfl,hE,hO⟩
        go_wp2_with fail
        exact⟨rfl,Ans.mkErr HRES.out hE (Out.down (SG.out.out.trans hO.up))⟩
       | true =>
        obtain⟨tb,lb,hlb,-,-⟩:=sees_cons hby
        subst hlb
        have NB:=zH (need_yes p z k tb lb kwBy G0 SG.out.st hby)
        have HBY:=zH hby
        clear hby
        go_wp2_with fail
        refine NB.out.mono ?_
        rintro e G1 ⟨rfl,hPb,hOb⟩
        have SG1:=zH (SG.out.call hOb hPb)
        have LX:=zH (list_expr_any 52 orr p z k HSH.out.keep Tryz.enter_or HCC.out lb G1 hPb)
        clear hPb hOb NB
        have hgG1:=SG1.out.blk.lt
        cases hlx:listP z orr lb with
        | err er a =>
         have HLX:=zH hlx
         have HRES:=zH (show BS=.err er a by rw[RES.out,HWH.out,bind_ok,show bGroup z orr (tg :: tb :: lb)=.err er a from (if_pos HGR.out).trans ((if_pos HBY.out).trans hlx)];rfl)
         clear hlx
         go_wp2_with fail
         refine LX.out.mono ?_
         intro e G2 hA
         obtain⟨rfl,hE,hO⟩:=hA.err HLX.out
         go_wp2_with fail
         exact⟨rfl,Ans.mkErr HRES.out hE (Out.down (SG1.out.out.trans hO.up))⟩
        | ok gx rg =>
         have HLX:=zH hlx
         have HRES:=zH (show BS=.ok ⟨false,is,fs_,[xw],gx⟩ rg by rw[RES.out,HWH.out,bind_ok,show bGroup z orr (tg :: tb :: lb)=.ok gx rg from (if_pos HGR.out).trans ((if_pos HBY.out).trans hlx)];rfl)
         clear hlx
         go_wp2_with fail
         refine LX.out.mono ?_
         intro e G2 hA
         obtain⟨⟨v,rfl,⟨qg,cg,rfl,hg1,hg2,hg3⟩⟩,hPg,hOg⟩:=hA.ok HLX.out
         have SG2:=SG1.out.call hOg hPg
         obtain⟨ng,hng⟩:∃ ng,ng=gx.length:=⟨_,rfl⟩
         rw[← hng] at hg1 ⊢
         have hEL:=(hg3.on elE_ok (Q:=fun g=>X.heap.size<g) (Nat.le_refl _) (fun _ _ _=>rfl) (fun g hg _=>by omega)).ex
         have SG3:=zH (SG2.group hng hg1 hEL)
         have s0:=SG2.blk.c 4 _ rfl
         have s1:=SG2.blk.fz
         have s2:=SG2.blk.lt
         clear hg1 hg2 hg3 hPg hOg hA LX hEL SG2 hng
         go_upto_region 13 with fail
         obtain⟨G3,hG3⟩:∃ G3,G3=G2.setCell ⟨X.heap.size,4,none⟩ (.slice qg ng cg):=⟨_,rfl⟩
         rw[← hG3] at SG3
         rw[← hG3]
         clear s0 s1 s2 hG3
         obtain⟨c0,c1,c2,c3,c4⟩:=SG3.out.blk.c5_ rfl
         have fz:=SG3.out.blk.fz
         have ltb:=SG3.out.blk.lt
         obtain⟨d0,d1,d2,d3,d4⟩:=SG3.out.res.c5_ rfl
         have fzr:=SG3.out.res.fz
         have ltr:=SG3.out.res.lt
         have o:=out5 G3 w.heap.size (.bool false) (.slice qi ni ci) (.slice qf nf cf) (.slice (some ⟨H1.heap.size,0,none⟩) 1 1) (.slice qg ng cg)
         have HF:=zH (fin_st (gr:=w.heap.size) (Nat.le_refl _) lp SG3.out.st SG3.out.out o)
         have HV:=zH (show SlV w.heap.size _ _ (.agg #[.bool false,.slice qi ni ci,.slice qf nf cf,.slice (some ⟨H1.heap.size,0,none⟩) 1 1,.slice qg ng cg]) from ⟨_,rfl,elS_ok.on o.size (fun g hg hl=>o.block g hl (fun (e:g=w.heap.size)=>by have:=SG3.out.gt;omega)) (fun g hg _=>by have:=SG3.out.gt;omega) _ _ SG3.out.rel⟩)
         clear o
         go_wp2_with fail
         exact bodyPost_ret (v:=.agg #[.bool false,.slice qi ni ci,.slice qf nf cf,.slice (some ⟨H1.heap.size,0,none⟩) 1 1,.slice qg ng cg]) (by simp[results,Tryz.results20,go_sem,d0,d1,d2,d3,d4]) rfl (Ans.mkOk HRES.out HV.out HF.out.1 HF.out.2)
set_option maxHeartbeats 2000000 in
theorem sel_no (p z k ahead:Nat) (orr:Rd Ex) (l:List Tok) (hs:hSees kwSelect l=false) (w:World) (h:PSt w p z l k):Calls Tryz.prog 20 #[.pointer (some ⟨p,0,none⟩),.int .i64 (ahead:Int)] w (Ans SlV p z k (bSel z orr ahead l) w):=by
 have lp:=h.lt
 have B0:=zH (show Below w.heap.size w (w.alloc (.cells zSel.toArray 38)) from ext_alloc (ext_refl _) _)
 have HRES:=zH (show bSel z orr ahead l=.err 7 (hAt z l) from if_neg (by rw[hs];decide))
 have NN:=zH (need_no p z k l kwSelect _ (h.below B0.out) hs)
 clear h hs
 go_enter Tryz.func20,Tryz.ntmps20
 go_wp2_with fail
 refine NN.out.mono ?_
 rintro e V ⟨rfl,hE,hO⟩
 go_wp2_with fail
 exact⟨rfl,Ans.mkErr HRES.out hE (Out.down ((Out.of (S:=fun j=>j=p∨w.heap.size≤j) B0.out).trans hO.up))⟩
set_option maxHeartbeats 4000000 in
theorem sel_four (p z k:Nat) (orr:Rd Ex) (t0:Tok) (l:List Tok) (hs:hSees kwSelect (t0 :: l)=true) (w:World) (h:PSt w p z (t0 :: l) k):Calls Tryz.prog 20 #[.pointer (some ⟨p,0,none⟩),.int .i64 ((4:Nat):Int)] w (Ans SlV p z k (bSel z orr 4 (t0 :: l)) w):=by
 have lp:=h.lt
 have B0:=zH (show Below w.heap.size w (w.alloc (.cells zSel.toArray 38)) from ext_alloc (ext_refl _) _)
 have HP0:=zH (h.below B0.out)
 have HRES:=zH (show bSel z orr 4 (t0 :: l)=.err 5 (hAt z (t0 :: l)) from (if_pos hs).trans (if_pos rfl))
 have ND:=zH (need_yes p z k t0 l kwSelect _ HP0.out hs)
 have i4:(((4:Nat):Int) == 4)=true:=rfl
 obtain⟨BS,hBS⟩:∃ B,B=bSel z orr 4 (t0 :: l):=⟨_,rfl⟩
 rw[← hBS] at HRES ⊢
 obtain⟨kd0,n0,a0,tx0⟩:=t0
 have HRES2:=zH (show BS=.err 5 a0 from HRES.out)
 clear h hs hBS HRES
 go_enter Tryz.func20,Tryz.ntmps20
 go_wp2_with fail
 refine ND.out.mono ?_
 rintro e V ⟨rfl,hP,hO⟩
 have PV:=(Out.of (S:=fun j=>j=p∨w.heap.size≤j) B0.out).trans hO.up
 have b1:Below V.heap.size V (V.alloc (.cells #[.int .i64 (kd0:Int),.int .i64 (n0:Int),.int .i64 (a0:Int),.string (bsB tx0)] 55)):=ext_alloc (ext_refl _) _
 have HPU:=zH (hP.below b1)
 have PU:=zH (PV.trans (Out.of b1))
 clear hP hO PV b1 ND
 go_wp2_with fail
 exact⟨rfl,Ans.mkErr HRES2.out HPU.out.pe (Out.down PU.out)⟩
theorem sel_any (p z k ahead:Nat) (orr:Rd Ex) (hS:Shr orr) (hC:RdC 52 p z k orr) (l:List Tok) (w:World) (h:PSt w p z l k):Calls Tryz.prog 20 #[.pointer (some ⟨p,0,none⟩),.int .i64 (ahead:Int)] w (Ans SlV p z k (bSel z orr ahead l) w):=by
 cases hs:hSees kwSelect l with
 | false=>exact sel_no p z k ahead orr l hs w h
 | true =>
  obtain⟨t0,l,rfl,-,-⟩:=sees_cons hs
  by_cases ha:ahead=4
  ·subst ha
   exact sel_four p z k orr t0 l hs w h
  ·cases hdi:hSees kwDistinct l with
   | false=>exact sel_main_false p z k ahead orr hS hC t0 l hs ha hdi w h
   | true =>
    obtain⟨td,l,rfl,-,-⟩:=sees_cons hdi
    exact sel_main_true p z k ahead orr hS hC t0 td l hs ha hdi w h
abbrev zQu:List Value:=[.slice none 0 0,.slice none 0 0]
def QuV (b:Nat) (w:World) (x:Qu) (v:Value):Prop:=∃ qs ns cs qo no co,v=.agg #[.slice qs ns cs,.slice qo no co]∧(ns=x.sels.length∧ns≤cs∧LsM elS w (fun g=>b≤g) qs x.sels)∧no=x.order.length∧no≤co∧LsM elK w (fun g=>b≤g) qo x.order
theorem Tryz.info_sel:(Tryz.prog.info? 38).map (fun i=>(i.zero,i.size,i.bytes))=some (some (.agg #[.bool false,.slice none 0 0,.slice none 0 0,.slice none 0 0,.slice none 0 0]),5,104):=by kernel_rfl
theorem Tryz.underlying23:Tryz.prog.underlying 23=some (.slice 38):=by kernel_rfl
theorem Tryz.enter_sel (args:Array Value) (w:World):(callFunc 20 args).run Tryz.prog w=.ok (.enter 20 args) w:=by kernel_rfl
theorem Tryz.enter_key (args:Array Value) (w:World):(callFunc 24 args).run Tryz.prog w=.ok (.enter 24 args) w:=by kernel_rfl
def elQ (gq:Nat):El Sel RawS:=⟨38,5,RawS.cells,fun w P x r=>elS.rel w (fun g=>P g∧g≠gq) x r⟩
theorem elQ_ok (gq:Nat):(elQ gq).Ok:=⟨fun _=>rfl,fun hs hP hQ x r h=>elS_ok.on hs (fun g hg hl=>hP g hg.1 hl) (fun g hg hl=>⟨hQ g hg.1 hl,hg.2⟩) x r h⟩
theorem LsO.outq {gq:Nat} {w w':World} {b:Nat} {v:Value} {L:List Sel} (h:LsO (elQ gq) w b v L) (o:Out (fun j=>j=gq) w w') (hv:v.ownBlock≠some gq):LsO (elQ gq) w' b v L:=by
 obtain⟨K,h1,h2,h3⟩:=h.own
 refine⟨K,h1.kept (S:=fun j=>j=gq) o (fun k hk e=>hv (by rw[e,hk])),h2,fun j r x hr hx=>?_⟩
 exact elS_ok.on o.size (fun g hg hl=>o.block g hl (fun (e:g=gq)=>hg.2 e)) (fun _ h _=>h) _ _ (h3 j r x hr hx)
structure QL (w W:World) (p z k gq:Nat) (v vo:Value) (ss:List Sel) (os:List Ky) (l:List Tok):Prop where
 st:PSt W p z l k
 res:BkA W w.heap.size zQu
 blk:BkA W gq [v,vo]
 ls:LsO (elQ gq) W (w.heap.size+1) v ss
 ne:v.ownBlock≠some gq
 od:∃ qo co,vo=.slice qo os.length co∧os.length≤co∧LsM elK W (fun g=>gq<g) qo os
 out:Out (fun j=>j=p∨w.heap.size≤j) w W
 lt:p<w.heap.size
 gt:w.heap.size<gq
theorem QL.call {w W W':World} {p z k gq:Nat} {v vo:Value} {ss:List Sel} {os:List Ky} {l l':List Tok} (h:QL w W p z k gq v vo ss os l) (o:Out (fun j=>j=p) W W') (hP:PSt W' p z l' k):QL w W' p z k gq v vo ss os l':=by
 have h1:=h.lt
 have h2:=h.gt
 obtain⟨qo,co,e,hl,hm⟩:=h.od
 exact⟨hP,h.res.outs o (by omega),h.blk.outs o (by omega),h.ls.outs (elQ_ok gq) o (fun j hj _=>by omega),h.ne,⟨qo,co,e,hl,hm.on elK_ok o.size (fun g hg hl=>o.block g hl (fun (e:g=p)=>by omega)) (fun _ h _=>h)⟩,h.out.trans o.up,h1,h2⟩
theorem QL.below {w W W':World} {p z k gq:Nat} {v vo:Value} {ss:List Sel} {os:List Ky} {l:List Tok} (h:QL w W p z k gq v vo ss os l) (o:Below W.heap.size W W'):QL w W' p z k gq v vo ss os l:=h.call (Out.of o) (h.st.below o)
theorem set2 {X:World} {g:Nat} {u0 u1:Value} (h:BkA X g [u0,u1]) (k:Nat) (u:Value) (hk:k<2):BkA (X.setCell ⟨g,k,none⟩ u) g ([u0,u1].set k u):=by
 have o:=Out.set (S:=fun j=>j=g) (a:=X) ⟨g,k,none⟩ u rfl
 refine⟨Nat.lt_of_lt_of_le h.lt o.size,fun j v hv=>?_,fun i=>by rw[World.frozen?_setCell];exact h.fz i⟩
 by_cases hj:j=k
 ·subst hj
  rw[List.getElem?_set_self (by simpa using hk)] at hv
  cases hv
  obtain⟨u',hu'⟩:∃ u',[u0,u1][j]?=some u':=⟨_,List.getElem?_eq_getElem (by simpa using hk)⟩
  exact cell_set_self (h.c j u' hu')
 ·rw[List.getElem?_set_ne (fun e=>hj e.symm)] at hv
  rw[World.cell?_setCell_other _ _ _ _ (by first |(simp;done) |(simp;omega))]
  exact h.c j v hv
theorem QL.order {w W:World} {p z k gq:Nat} {v vo:Value} {ss:List Sel} {os L:List Ky} {l:List Tok} (h:QL w W p z k gq v vo ss os l) {q:Option Addr} {n c:Nat} (hn:n=L.length) (hc:n≤c) (hL:LsM elK W (fun g=>gq<g) q L):QL w (W.setCell ⟨gq,1,none⟩ (.slice q n c)) p z k gq v (.slice q n c) ss L l:=by
 have h1:=h.lt
 have h2:=h.gt
 have o:=Out.set (S:=fun j=>j=gq) (a:=W) ⟨gq,1,none⟩ (.slice q n c) rfl
 exact⟨h.st.outs o (fun j hj=>by omega),h.res.outs o (by omega),set2 h.blk 1 _ (by decide),h.ls.outq o h.ne,h.ne,⟨q,c,by rw[← hn],by rw[← hn];exact hc,hL.on elK_ok o.size (fun g hg hl=>o.block g hl (fun (e:g=gq)=>by omega)) (fun _ h _=>h)⟩,h.out.trans (o.mono fun j _ hj=>.inr (by omega)),h1,h2⟩
theorem QL.first {w V:World} {p z k:Nat} {x:Sel} {raw:RawS} {l:List Tok} (hP:PSt V p z l k) (hR:BkA V w.heap.size zQu) (hO:Out (fun j=>j=p∨w.heap.size≤j) w V) (hp:p<w.heap.size) (hx:elS.rel V (fun g=>w.heap.size+1≤g) x raw) :
  QL w ((V.alloc (.cells raw.cells.toArray 38)).alloc (.cells #[.slice (some ⟨V.heap.size,0,none⟩) 1 1,.slice none 0 0] 26)) p z k (V.heap.size+1) (.slice (some ⟨V.heap.size,0,none⟩) 1 1) (.slice none 0 0) [x] [] l:=by
 have hwV:=hR.lt
 have b1:Below V.heap.size V (V.alloc (.cells raw.cells.toArray 38)):=ext_alloc (ext_refl _) _
 have hx':(elQ (V.heap.size+1)).rel V (fun g=>w.heap.size+1≤g) x raw:=elS_ok.on (Nat.le_refl _) (fun _ _ _=>rfl) (fun g hg hl=>⟨hg,by omega⟩) _ _ hx
 have LO:=LsO.first (elQ_ok (V.heap.size+1)) hx' hwV
 have LO:LsO (elQ (V.heap.size+1)) (V.alloc (.cells raw.cells.toArray 38)) (w.heap.size+1) (.slice (some ⟨V.heap.size,0,none⟩) 1 1) [x]:=LO
 have hsz:(V.alloc (.cells raw.cells.toArray 38)).heap.size=V.heap.size+1:=Array.size_push _
 obtain⟨U,hU⟩:∃ U,U=V.alloc (.cells raw.cells.toArray 38):=⟨_,rfl⟩
 rw[← hU] at b1 LO hsz ⊢
 have b2:Below U.heap.size U (U.alloc (.cells #[.slice (some ⟨V.heap.size,0,none⟩) 1 1,.slice none 0 0] 26)):=ext_alloc (ext_refl _) _
 have NQ:=BkA.new U [.slice (some ⟨V.heap.size,0,none⟩) 1 1,.slice none 0 0] 26
 rw[hsz] at NQ
 exact⟨(hP.below b1).below b2,(hR.on b1).on b2,NQ,LO.outs (elQ_ok _) (Out.of (S:=fun _=>False) b2) (fun _ h _=>h.elim),by simp[Value.ownBlock],⟨none,0,rfl,Nat.le_refl _,LsM.nil⟩,(hO.trans (Out.of b1)).trans (Out.of b2),hp,by omega⟩
theorem QL.more {w Y Z U V:World} {p z k gq:Nat} {v v' vo:Value} {ss:List Sel} {l r:List Tok} (h:QL w Y p z k gq v vo ss [] l) (hO:Out (fun j=>j=p) Y Z) (hP:PSt Z p z r k) {x:Sel} {raw:RawS} (hx:elS.rel Z (fun g=>Y.heap.size≤g) x raw)
  {K:List RawS} (hK1:OwnF Y (w.heap.size+1) 38 5 RawS.cells v K) (hK2:K.length=ss.length) (hK3:∀ (j:Nat) (r:RawS) (x:Sel),K[j]?=some r→ss[j]?=some x→(elQ gq).rel Y (fun g=>w.heap.size+1≤g∧v.ownBlock≠some g) x r)
  (hU:U=Z.alloc (.cells raw.cells.toArray 38)) (ho:OwnF V (w.heap.size+1) 38 5 RawS.cells v' (K++[raw])) (hV:Out (fun k=>v.ownBlock=some k) U V) (hat:v'.ownBlock=v.ownBlock∨v'.ownBlock=some U.heap.size):QL w (V.setCell ⟨gq,0,none⟩ v') p z k gq v' vo (ss++[x]) [] r:=by
 have h1:=h.lt
 have h2:=h.gt
 have hgY:=h.blk.lt
 have b1:Below Z.heap.size Z U:=by rw[hU];exact ext_alloc (ext_refl _) _
 have hYZ:=hO.size
 have hZU:=b1.size
 have hlo:∀ k,v.ownBlock=some k→w.heap.size+1≤k∧k<Y.heap.size:=fun k e=>hK1.lt k e
 have PU:=hP.below b1
 have QU:QL w U p z k gq v vo ss [] r:=(h.call hO hP).below b1
 have hKU:∀ (j:Nat) (r:RawS) (x:Sel),K[j]?=some r→ss[j]?=some x→(elQ gq).rel U (fun g=>w.heap.size+1≤g∧v.ownBlock≠some g) x r:=fun j r x hr hx=>(elQ_ok gq).on (Nat.le_trans hYZ hZU) (fun g hg hl=>(b1.block g (by omega)).trans (hO.block g hl (fun (e:g=p)=>by have:=hg.1;omega))) (fun _ h _=>h) x r (hK3 j r x hr hx)
 have hxU:(elQ gq).rel U (fun g=>Y.heap.size≤g) x raw:=elS_ok.on hZU (fun g hg hl=>b1.block g hl) (fun g hg hl=>⟨hg,by omega⟩) _ _ hx
 have LG:=LsO.grown (elQ_ok gq) hK2 hKU (fun k e=>(hlo k e).2) hxU (by omega) (by omega) ho hV hat
 have hne':v'.ownBlock≠some gq:=by
  rcases hat with e | e
  ·rw[e];exact h.ne
  ·rw[e];simp;omega
 have o:=Out.set (S:=fun j=>j=gq) (a:=V) ⟨gq,0,none⟩ v' rfl
 obtain⟨qo,co,e,hl,-⟩:=QU.od
 have hps:∀ j,v.ownBlock=some j→p<j:=fun j e=>by have:=hlo j e;omega
 exact⟨(QU.st.outs hV hps).outs o (fun j hj=>by omega),(QU.res.outs hV (fun e=>by have:=hlo _ e;omega)).outs o (by omega),set2 (QU.blk.outs hV (fun e=>h.ne e)) 0 _ (by decide),LG.outq o hne',hne',⟨qo,co,e,hl,LsM.nil⟩,
  (QU.out.trans (hV.mono fun j _ hj=>.inr (by have:=hlo j hj;omega))).trans (o.mono fun j _ hj=>.inr (by omega)),h1,h2⟩
theorem QL.read {w W:World} {p z k gq:Nat} {v vo:Value} {ss:List Sel} {os:List Ky} {l:List Tok} (h:QL w W p z k gq v vo ss os l):QuV (w.heap.size+1) W ⟨ss,os⟩ (.agg #[v,vo]):=by
 have h2:=h.gt
 obtain⟨q,c,e,h3,-,h4⟩:=h.ls.read (elQ_ok gq)
 obtain⟨qo,co,eo,h5,h6⟩:=h.od
 refine⟨q,_,c,qo,_,co,by rw[e,eo],⟨rfl,h3,fun j x hx=>?_⟩,rfl,h5,h6.on elK_ok (Nat.le_refl _) (fun _ _ _=>rfl) (fun g hg _=>by omega)⟩
 obtain⟨g,off,r,e1,h7,h8,h9,h10⟩:=h4 j x hx
 exact⟨g,off,r,e1,h7,h8,elS_ok.on (Nat.le_refl _) (fun _ _ _=>rfl) (fun g hg _=>hg.1) _ _ h9,h10⟩
theorem QuV.on {b:Nat} {w w':World} {x:Qu} {v:Value} (h:QuV b w x v) (hs:w.heap.size≤w'.heap.size) (hP:∀ g,b≤g→g<w.heap.size→w'.heap[g]?=w.heap[g]?) {c:Nat} (hc:c≤b):QuV c w' x v:=by
 obtain⟨qs,ns,cs,qo,no,co,e,⟨h1,h2,h3⟩,h4,h5,h6⟩:=h
 exact⟨qs,ns,cs,qo,no,co,e,⟨h1,h2,h3.on elS_ok hs hP (fun g hg _=>by omega)⟩,h4,h5,h6.on elK_ok hs hP (fun g hg _=>by omega)⟩
theorem RawS.cells_len (r:RawS):r.cells.length=5:=rfl
set_option maxHeartbeats 16000000 in
theorem query_any (p z k:Nat) (orr:Rd Ex) (hS:Shr orr) (hC:RdC 52 p z k orr) (l:List Tok) (w:World) (h:PSt w p z l k):Calls Tryz.prog 10 #[.pointer (some ⟨p,0,none⟩)] w (Ans QuV p z k (bQuery z orr l) w):=by
 have lp:=h.lt
 have B0:=zH (show Below w.heap.size w (w.alloc (.cells zQu.toArray 26)) from ext_alloc (ext_refl _) _)
 have N0:=zH (BkA.new w zQu 26)
 have HP0:=zH (h.below B0.out)
 have HCC:=zH hC
 have HSH:=zH hS
 have SL:=zH (sel_any p z k 0 orr hS hC l _ HP0.out)
 clear h hS hC
 cases hsl:bSel z orr 0 l with
 | err er a =>
  have HSL:=zH hsl
  have HRES:=zH (show bQuery z orr l=.err er a by unfold bQuery;rw[hsl];rfl)
  clear hsl
  go_enter Tryz.func10,Tryz.ntmps10
  go_wp2_with fail
  refine SL.out.mono ?_
  intro e V hA
  obtain⟨rfl,hE,hO⟩:=hA.err HSL.out
  go_wp2_with fail
  exact⟨rfl,Ans.mkErr HRES.out hE (Out.down ((Out.of (S:=fun j=>j=p∨w.heap.size≤j) B0.out).trans hO.up))⟩
 | ok x0 r0 =>
  have HSL:=zH hsl
  have HB:=zH (show bQuery z orr l=(selsW z orr [x0] r0).bind fun ss r2=>(bOrder z r2).bind fun o r3=>bEnd ⟨ss,o⟩ r3 by unfold bQuery;rw[hsl];rfl)
  clear hsl
  go_enter Tryz.func10,Tryz.ntmps10
  go_wp2_with fail
  refine SL.out.mono ?_
  intro e V hA
  obtain⟨⟨v,rfl,⟨⟨ad,⟨aiq,ain,aic⟩,⟨afq,afn,afc⟩,⟨awq,awn,awc⟩,⟨agq,agn,agc⟩⟩,rfl,hx⟩⟩,hP,hO⟩:=hA.ok HSL.out
  have hs0:(w.alloc (.cells zQu.toArray 26)).heap.size=w.heap.size+1:=Array.size_push _
  have hx:=elS_ok.on (Q:=fun g=>w.heap.size+1≤g) (Nat.le_refl _) (fun _ _ _=>rfl) (fun g hg _=>by rw[← hs0];exact hg) _ _ hx
  have QF:=zH (QL.first hP (N0.out.outs hO (by omega)) ((Out.of (S:=fun j=>j=p∨w.heap.size≤j) B0.out).trans hO.up) lp hx)
  clear hx hP hO hA SL hs0
  obtain⟨gq,hgq⟩:∃ gq,gq=V.heap.size+1:=⟨_,rfl⟩
  have hsz:(V.alloc (.cells #[.bool ad,.slice aiq ain aic,.slice afq afn afc,.slice awq awn awc,.slice agq agn agc] 38)).heap.size=V.heap.size+1:=Array.size_push _
  rw[← hgq] at QF hsz
  go_wp2_with fail
  rw[← hgq]
  clear hsz hgq
  go_loopw [8] (fun _ wr=>∃ (v:Value) (ss:List Sel) (l':List Tok),Hid (selsW z orr ss l'=selsW z orr [x0] r0)∧Hid (QL w wr p z k gq v (.slice none 0 0) ss [] l')∧ss.length≤4) (fun _ wr=>restLen wr p)
  case atStart=>exact⟨_,[x0],r0,rfl,QF.out,by simp⟩
  case round =>
   obtain⟨v,ss,l',hQ,hL,h4⟩:=hrel
   obtain⟨W,hW⟩:∃ W,W=wr:=⟨_,rfl⟩
   rw[← hW] at hL ⊢
   obtain⟨K,hK1,hK2,hK3⟩:=hL.out.ls.own
   obtain⟨q,c,rfl,-⟩:=OwnF.arr (elQ_ok gq).len hK1
   obtain⟨n,hn⟩:∃ n,n=K.length:=⟨_,rfl⟩
   have HN:=zH hn
   rw[← hn] at hK1 hK3 hL
   have HQ:=zH hQ.out
   have HL:=zH hL.out
   have HK1:=zH hK1
   have HK2:=zH hK2
   have HK3:=zH hK3
   have HNS:=zH (show n=ss.length by rw[hn,hK2])
   have hn4:n≤4:=by rw[HNS.out];exact h4
   have hgW:=HL.out.blk.lt
   have hwg:=HL.out.gt
   clear hW hQ hL hK1 hK2 hK3 hn QF
   cases hu:hSees kwUnion l' with
   | false =>
    have TU:=zH (take_no p z k l' kwUnion W HL.out.st hu)
    have RES:=zH (show bQuery z orr l=(bOrder z l').bind fun o r3=>bEnd ⟨ss,o⟩ r3 by rw[HB.out,← HQ.out,selsW_none hu];rfl)
    clear hu HK1 HK2 HK3 HB HQ
    go_wp2_with fail
    refine TU.out.mono ?_
    rintro e X ⟨rfl,hb⟩
    have SX:=zH (HL.out.below hb)
    clear hb TU HL
    cases ho:hSees kwOrder l' with
    | false =>
     have RES:=zH (show bQuery z orr l=bEnd ⟨ss,[]⟩ l' by rw[RES.out,show bOrder z l'=.ok [] l' from if_neg (by rw[ho];decide)];rfl)
     have TO:=zH (take_no p z k l' kwOrder X SX.out.st ho)
     clear ho
     go_wp2_with fail
     refine TO.out.mono ?_
     rintro e X1 ⟨rfl,hb⟩
     have SX1:=zH (SX.out.below hb)
     clear hb TO SX
     cases hl:l' with
     | nil =>
      have HRES:=zH (show bQuery z orr l=.ok ⟨ss,[]⟩ [] by rw[RES.out,hl];rfl)
      rw[hl] at SX1
      have LK:=zH (look_any p z k [] X1 SX1.out.st)
      obtain⟨⟨kde,ne_,ae,txe⟩,hte⟩:∃ t,t=hd z []:=⟨_,rfl⟩
      rw[← hte] at LK
      have hk0:kde=0:=congrArg Tok.kd hte
      have e0:((kde:Int) != 0)=false:=by rw[hk0];rfl
      have tk0:=fun W'=>Tryz.tokKind (kde:Int) (ne_:Int) (ae:Int) (bsB txe) W'
      clear hte hk0
      clear hl RES
      go_wp2_with fail
      refine LK.out.mono ?_
      rintro e F0 ⟨rfl,hb⟩
      have SF:=zH (SX1.out.below hb)
      clear hb LK
      have c0:=SF.out.blk.c 0 _ rfl
      have c1:=SF.out.blk.c 1 _ rfl
      have fz:=SF.out.blk.fz
      have ltb:=SF.out.blk.lt
      have d0:=SF.out.res.c 0 _ rfl
      have d1:=SF.out.res.c 1 _ rfl
      have fzr:=SF.out.res.fz
      have ltr:=SF.out.res.lt
      have o:=out2 F0 w.heap.size (.slice q n c) (.slice none 0 0)
      have HF:=zH (fin_st (gr:=w.heap.size) (Nat.le_refl _) lp SF.out.st SF.out.out o)
      have HV:=zH (show QuV w.heap.size _ ⟨ss,[]⟩ (.agg #[.slice q n c,.slice none 0 0]) from SF.out.read.on o.size (fun g hg hl=>o.block g hl (fun (e:g=w.heap.size)=>by omega)) (Nat.le_succ _))
      clear o
      go_wp2_with fail
      exact bodyPost_ret (v:=.agg #[.slice q n c,.slice none 0 0]) (by simp[results,Tryz.results10,go_sem,d0,d1]) rfl (Ans.mkOk HRES.out HV.out HF.out.1 HF.out.2)
     | cons te le =>
      have HRES:=zH (show bQuery z orr l=.err 7 (hAt z (te :: le)) by rw[RES.out,hl];rfl)
      rw[hl] at SX1
      have LK:=zH (look_any p z k (te :: le) X1 SX1.out.st)
      have HWF:=zH (SX1.out.st.tk.wf te (List.mem_cons_self ..))
      have LW:=fun (W':World) (h:PSt W' p z (te :: le) k)=>zH (wrong_any p z k (te :: le) 7 W' h)
      obtain⟨TE,hTE⟩:∃ t,t=te :: le:=⟨_,rfl⟩
      have hhd:hd z TE=te:=by rw[hTE];rfl
      rw[← hTE] at LK HRES SX1 LW
      rw[hhd] at LK
      obtain⟨kde,ne_,ae,txe⟩:=te
      have e0:((kde:Int) != 0)=true:=by
       rw[bne_iff_ne]
       have:=HWF.out.kd.1
       simp only at this
       omega
      have tk0:=fun W'=>Tryz.tokKind (kde:Int) (ne_:Int) (ae:Int) (bsB txe) W'
      clear hl RES HWF hhd hTE
      go_wp2_with fail
      refine LK.out.mono ?_
      rintro e F0 ⟨rfl,hb⟩
      have SF:=zH (SX1.out.below hb)
      have LW0:=LW F0 SF.out.st
      clear hb LK LW
      go_wp2_with fail
      refine LW0.out.mono ?_
      rintro e F1 ⟨rfl,hb⟩
      have SF1:=zH (SF.out.below hb)
      clear hb
      go_wp2_with fail
      exact⟨rfl,Ans.mkErr HRES.out SF1.out.st.pe (Out.down SF1.out.out)⟩
    | true =>
     obtain⟨tor,lo,hlo,-,-⟩:=sees_cons ho
     subst hlo
     have TO:=zH (take_yes p z k tor lo kwOrder X SX.out.st ho)
     have HOO:=zH ho
     clear ho
     go_wp2_with fail
     refine TO.out.mono ?_
     rintro e X1 ⟨rfl,hP,hO⟩
     have SX1:=zH (SX.out.call hO hP)
     clear hP hO TO SX
     cases hby:hSees kwBy lo with
     | false =>
      have HRES:=zH (show bQuery z orr l=.err 7 (hAt z lo) by rw[RES.out,show bOrder z (tor :: lo)=.err 7 (hAt z lo) from (if_pos HOO.out).trans (if_neg (by rw[List.tail_cons,hby];decide))];rfl)
      have NB:=zH (need_no p z k lo kwBy X1 SX1.out.st hby)
      clear hby
      go_wp2_with fail
      refine NB.out.mono ?_
      rintro e X2 ⟨rfl,hE,hO⟩
      go_wp2_with fail
      exact⟨rfl,Ans.mkErr HRES.out hE (Out.down (SX1.out.out.trans hO.up))⟩
     | true =>
      obtain⟨tb,lb,hlb,-,-⟩:=sees_cons hby
      subst hlb
      have NB:=zH (need_yes p z k tb lb kwBy X1 SX1.out.st hby)
      have HBY:=zH hby
      have hmf:=Tryz.mkFunc
      clear hby
      go_wp2_with fail
      refine NB.out.mono ?_
      rintro e X2 ⟨rfl,hP,hO⟩
      have SX2:=zH (SX1.out.call hO hP)
      have LX:=zH (list_key_any 24 (bKey z) p z k (bKey_shr z).keep Tryz.enter_key (fun l w h=>key_any p z k l w h) lb X2 hP)
      have hgX2:=SX2.out.blk.lt
      clear hP hO NB SX1
      cases hlx:listP z (bKey z) lb with
      | err er a =>
       have HLX:=zH hlx
       have HRES:=zH (show bQuery z orr l=.err er a by rw[RES.out,show bOrder z (tor :: tb :: lb)=.err er a from (if_pos HOO.out).trans ((if_pos HBY.out).trans hlx)];rfl)
       clear hlx
       go_wp2_with fail
       refine LX.out.mono ?_
       intro e X3 hA
       obtain⟨rfl,hE,hO⟩:=hA.err HLX.out
       go_wp2_with fail
       exact⟨rfl,Ans.mkErr HRES.out hE (Out.down (SX2.out.out.trans hO.up))⟩
      | ok os rk =>
       have HLX:=zH hlx
       have RES:=zH (show bQuery z orr l=bEnd ⟨ss,os⟩ rk by rw[RES.out,show bOrder z (tor :: tb :: lb)=.ok os rk from (if_pos HOO.out).trans ((if_pos HBY.out).trans hlx)];rfl)
       clear hlx
       go_wp2_with fail
       refine LX.out.mono ?_
       intro e X3 hA
       obtain⟨⟨v,rfl,⟨qo,co,rfl,ho1,-,ho2⟩⟩,hP,hO⟩:=hA.ok HLX.out
       have SX3:=SX2.out.call hO hP
       obtain⟨no,hno⟩:∃ no,no=os.length:=⟨_,rfl⟩
       rw[← hno] at ho1 ⊢
       have SX4:=zH (SX3.order hno ho1 (ho2.on elK_ok (Q:=fun g=>gq<g) (Nat.le_refl _) (fun _ _ _=>rfl) (fun g hg _=>by omega)))
       have s0:=SX3.blk.c 1 _ rfl
       have s1:=SX3.blk.fz
       have s2:=SX3.blk.lt
       clear ho1 ho2 hP hO hA LX SX3 SX2 hno
       go_upto_region 8 with fail
       obtain⟨X4,hX4⟩:∃ M,M=X3.setCell ⟨gq,1,none⟩ (.slice qo no co):=⟨_,rfl⟩
       rw[← hX4] at SX4
       rw[← hX4]
       clear s0 s1 s2 hX4
       cases hl:rk with
       | nil =>
        have HRES:=zH (show bQuery z orr l=.ok ⟨ss,os⟩ [] by rw[RES.out,hl];rfl)
        rw[hl] at SX4
        have LK:=zH (look_any p z k [] X4 SX4.out.st)
        obtain⟨⟨kde,ne_,ae,txe⟩,hte⟩:∃ t,t=hd z []:=⟨_,rfl⟩
        rw[← hte] at LK
        have hk0:kde=0:=congrArg Tok.kd hte
        have e0:((kde:Int) != 0)=false:=by rw[hk0];rfl
        have tk0:=fun W'=>Tryz.tokKind (kde:Int) (ne_:Int) (ae:Int) (bsB txe) W'
        clear hte hk0
        clear hl RES
        go_wp2_with fail
        refine LK.out.mono ?_
        rintro e F0 ⟨rfl,hb⟩
        have SF:=zH (SX4.out.below hb)
        clear hb LK
        have c0:=SF.out.blk.c 0 _ rfl
        have c1:=SF.out.blk.c 1 _ rfl
        have fz:=SF.out.blk.fz
        have ltb:=SF.out.blk.lt
        have d0:=SF.out.res.c 0 _ rfl
        have d1:=SF.out.res.c 1 _ rfl
        have fzr:=SF.out.res.fz
        have ltr:=SF.out.res.lt
        have o:=out2 F0 w.heap.size (.slice q n c) (.slice qo no co)
        have HF:=zH (fin_st (gr:=w.heap.size) (Nat.le_refl _) lp SF.out.st SF.out.out o)
        have HV:=zH (show QuV w.heap.size _ ⟨ss,os⟩ (.agg #[.slice q n c,.slice qo no co]) from SF.out.read.on o.size (fun g hg hl=>o.block g hl (fun (e:g=w.heap.size)=>by omega)) (Nat.le_succ _))
        clear o
        go_wp2_with fail
        exact bodyPost_ret (v:=.agg #[.slice q n c,.slice qo no co]) (by simp[results,Tryz.results10,go_sem,d0,d1]) rfl (Ans.mkOk HRES.out HV.out HF.out.1 HF.out.2)
       | cons te le =>
        have HRES:=zH (show bQuery z orr l=.err 7 (hAt z (te :: le)) by rw[RES.out,hl];rfl)
        rw[hl] at SX4
        have LK:=zH (look_any p z k (te :: le) X4 SX4.out.st)
        have HWF:=zH (SX4.out.st.tk.wf te (List.mem_cons_self ..))
        have LW:=fun (W':World) (h:PSt W' p z (te :: le) k)=>zH (wrong_any p z k (te :: le) 7 W' h)
        obtain⟨TE,hTE⟩:∃ t,t=te :: le:=⟨_,rfl⟩
        have hhd:hd z TE=te:=by rw[hTE];rfl
        rw[← hTE] at LK HRES SX4 LW
        rw[hhd] at LK
        obtain⟨kde,ne_,ae,txe⟩:=te
        have e0:((kde:Int) != 0)=true:=by
         rw[bne_iff_ne]
         have:=HWF.out.kd.1
         simp only at this
         omega
        have tk0:=fun W'=>Tryz.tokKind (kde:Int) (ne_:Int) (ae:Int) (bsB txe) W'
        clear hl RES HWF hhd hTE
        go_wp2_with fail
        refine LK.out.mono ?_
        rintro e F0 ⟨rfl,hb⟩
        have SF:=zH (SX4.out.below hb)
        have LW0:=LW F0 SF.out.st
        clear hb LK LW
        go_wp2_with fail
        refine LW0.out.mono ?_
        rintro e F1 ⟨rfl,hb⟩
        have SF1:=zH (SF.out.below hb)
        clear hb
        go_wp2_with fail
        exact⟨rfl,Ans.mkErr HRES.out SF1.out.st.pe (Out.down SF1.out.out)⟩
   | true =>
    obtain⟨tu,l2,hl2,-,-⟩:=sees_cons hu
    subst hl2
    have TU:=zH (take_yes p z k tu l2 kwUnion W HL.out.st hu)
    have HU:=zH hu
    clear hu
    go_wp2_with fail
    refine TU.out.mono ?_
    rintro e X ⟨rfl,hP,hO⟩
    have SX:=zH (HL.out.call hO hP)
    have HOX:=zH hO
    clear hP hO TU
    cases ha:hSees kwAll l2 with
    | false =>
     have HRES:=zH (show bQuery z orr l=.err 7 (hAt z l2) by rw[HB.out,← HQ.out,selsW_all HU.out ha];rfl)
     have NA:=zH (need_no p z k l2 kwAll X SX.out.st ha)
     clear ha
     go_wp2_with fail
     refine NA.out.mono ?_
     rintro e Y ⟨rfl,hE,hO⟩
     go_wp2_with fail
     exact⟨rfl,Ans.mkErr HRES.out hE (Out.down (SX.out.out.trans hO.up))⟩
    | true =>
     obtain⟨ta,l3,hl3,-,-⟩:=sees_cons ha
     subst hl3
     have NA:=zH (need_yes p z k ta l3 kwAll X SX.out.st ha)
     have HAA:=zH ha
     clear ha
     go_wp2_with fail
     refine NA.out.mono ?_
     rintro e Y ⟨rfl,hP,hO⟩
     have SY:=zH (SX.out.call hO hP)
     have HOY:=zH (HOX.out.trans hO)
     go_wp2_with fail
     have hd0:Below Y.heap.size Y Y.drew:=(Below.refl _ _).drew
     have HD:=zH hd0
     have SD:=zH (SY.out.below hd0)
     have CYD:=zH (sel_any p z k n orr HSH.out HCC.out l3 Y.drew SD.out.st)
     clear hP hO hd0 NA SX
     have QY:=SY.out.blk
     have QD:=SD.out.blk
     cases hss:bSel z orr n l3 with
     | err er a =>
      have HSS:=zH hss
      have HRES:=zH (show bQuery z orr l=.err er a by rw[HB.out,← HQ.out,selsW_err HU.out HAA.out (by rw[← HNS.out];exact hss)];rfl)
      have SA:=zH (show (fun W'=>W'.cell? ⟨gq,0,none⟩=some (.slice q n c)) Y.drew from QD.c 0 _ rfl)
      have hgY:=QY.lt
      clear hss QY QD
      refine wp_region_held_drew (S:=fun W'=>W'.cell? ⟨gq,0,none⟩=some (.slice q n c)) (by kernel_rfl) SA.out (fun hS=>?_)
      refine wpAnyH_take (i:=0) (v:=.pointer (some ⟨gq,0,none⟩)) rfl (by kernel_rfl) (by kernel_rfl) (by kernel_rfl) (fun _ _ _ h=>h) (Or.inl ⟨rfl,fun w hw=>?_⟩) hS ?_
      ·go_simp
      (try simp only[Act.put,List.setIfInBounds_toArray,List.set_cons_zero,List.set_cons_succ])
      refine wpAnyH_take (i:=1) (v:=.slice q n c) rfl (by kernel_rfl) (by kernel_rfl) (by kernel_rfl) (fun _ _ _ h=>h) (Or.inl ⟨rfl,fun w hw=>?_⟩) hS ?_
      ·go_simp
      (try simp only[Act.put,List.setIfInBounds_toArray,List.set_cons_zero,List.set_cons_succ])
      refine wpAnyH_take (i:=2) (v:=.pointer (some ⟨p,0,none⟩)) rfl (by kernel_rfl) (by kernel_rfl) (by kernel_rfl) (fun _ _ _ h=>h) (Or.inl ⟨rfl,fun w hw=>?_⟩) hS ?_
      ·go_simp
      (try simp only[Act.put,List.setIfInBounds_toArray,List.set_cons_zero,List.set_cons_succ])
      refine wpAnyH_take (i:=3) (v:=.pointer (some ⟨gq,0,none⟩)) rfl (by kernel_rfl) (by kernel_rfl) (by kernel_rfl) (fun _ _ _ h=>h) (Or.inl ⟨rfl,fun w hw=>?_⟩) hS ?_
      ·go_simp
      (try simp only[Act.put,List.setIfInBounds_toArray,List.set_cons_zero,List.set_cons_succ])
      refine wpAnyH_take (i:=4) (v:=.slice q n c) rfl (by kernel_rfl) (by kernel_rfl) (by kernel_rfl) (fun _ _ _ h=>h) (Or.inl ⟨rfl,fun w hw=>?_⟩) hS ?_
      ·go_simp
      (try simp only[Act.put,List.setIfInBounds_toArray,List.set_cons_zero,List.set_cons_succ])
      refine wpAnyH_take (i:=5) (v:=.int .i64 (n:Int)) rfl (by kernel_rfl) (by kernel_rfl) (by kernel_rfl) (fun _ _ _ h=>h) (Or.inl ⟨rfl,fun w hw=>?_⟩) hS ?_
      ·go_simp
      (try simp only[Act.put,List.setIfInBounds_toArray,List.set_cons_zero,List.set_cons_succ])
      refine wpAnyH_ready (rs:=[6]) (by kernel_rfl) (by decide) (AllReadyH.cons rfl (fun K' _=>?_) AllReadyH.nil)
      refine step_call2p rfl 20 _ _ _ rfl (.pointer (some ⟨p,0,none⟩)) (.int .i64 (n:Int)) rfl rfl (Tryz.enter_sel _ _) ?_
      refine CYD.out.mono ?_
      intro e2 Z hA2
      obtain⟨rfl,hE2,hO2⟩:=hA2.err HSS.out
      exact⟨_,rfl,rfl,Ans.mkErr HRES.out hE2 (Out.down (SD.out.out.trans hO2.up))⟩
     | ok x r' =>
      have HSS:=zH hss
      have HQ2:=zH (show selsW z orr (ss++[x]) r'=selsW z orr [x0] r0 by rw[← HQ.out,selsW_some HSH.out HU.out HAA.out (by rw[← HNS.out];exact hss)])
      have HLEN:=zH ((bSel_shr z HSH.out n).keep.len hss)
      have hn3:n≠4:=fun e=>by
       rw[e] at hss
       unfold bSel need at hss
       split at hss
       ·simp at hss
       ·cases hss
      have KY:=zH (show OwnF Y (w.heap.size+1) 38 5 RawS.cells (.slice q n c) K from HK1.out.kept (S:=fun j=>j=p) HOY.out (fun j hj e=>by have:=(HK1.out.lt j e).1;omega))
      have K3Y:∀ (j:Nat) (r:RawS) (x:Sel),K[j]?=some r→ss[j]?=some x→(elQ gq).rel Y (fun g=>w.heap.size+1≤g∧(Value.slice q n c).ownBlock≠some g) x r:=fun j r x hr hx=>(elQ_ok gq).on HOY.out.size (fun g hg hl=>HOY.out.block g hl (fun (e:g=p)=>by have:=hg.1;omega)) (fun _ h _=>h) x r (HK3.out j r x hr hx)
      have K3Y:=zH K3Y
      have x0_:=QY.c 0 _ rfl
      have fzX:=QY.fz
      have hgX:=QY.lt
      have d0_:=QD.c 0 _ rfl
      have fzD:=QD.fz
      have hgD:=QD.lt
      clear hss QY QD
      go_region_law (first
       |(refine step_call2 rfl 20 _ _ _ rfl (.pointer (some ⟨p,0,none⟩)) (.int .i64 (n:Int)) rfl rfl (Tryz.enter_sel _ _) ?_;(with_reducible refine CYD.out.mono ?_);intro e2 Z hA2;obtain⟨⟨v2,rfl,⟨⟨bd,⟨biq,bin,bic⟩,⟨bfq,bfn,bfc⟩,⟨bwq,bwn,bwc⟩,⟨bgq,bgn,bgc⟩⟩,rfl,hx2⟩⟩,hP2,hO2⟩:=hA2.ok HSS.out;refine⟨_,rfl,?_⟩;have HXX:=zH hx2;have HPZ:=zH hP2;have HOZ:=zH (show Out (fun j=>j=p) Y Z from (Out.of HD.out).trans hO2);have qz:=SY.out.blk.outs HOZ.out (by omega);have z0_:=qz.c 0 _ rfl;have fzZ:=qz.fz;have hgZ:=qz.lt;have HBZ:=zH qz;have HKZ:=zH (KY.out.kept (S:=fun j=>j=p) HOZ.out (fun j hj e=>by have:=(KY.out.lt j e).1;omega));clear hx2 hP2 hO2 hA2 qz)
       |(refine step_append_flat rfl _ _ 23 38 rfl Tryz.underlying23 _ 104 Tryz.info_sel rfl (by omega) RawS.cells_len RawS.one (w.heap.size+1) (.slice q n c) K rfl (HKZ.out.later (ext_alloc (ext_refl _) _)) _ 1 1 [⟨bd,⟨biq,bin,bic⟩,⟨bfq,bfn,bfc⟩,⟨bwq,bwn,bwc⟩,⟨bgq,bgn,bgc⟩⟩] rfl rfl 0 _ (one_block RawS.cells_len 38 #[.bool bd,.slice biq bin bic,.slice bfq bfn bfc,.slice bwq bwn bwc,.slice bgq bgn bgc] ⟨bd,⟨biq,bin,bic⟩,⟨bfq,bfn,bfc⟩,⟨bwq,bwn,bwc⟩,⟨bgq,bgn,bgc⟩⟩ rfl Z.heap.size rfl) (by have h:=HN.out;show K.length+1≤maxLen;unfold maxLen;omega) (by have h:=HN.out;show (K.length+1)*104≤140737488355328;omega) (by rw[show (Z.alloc _).heap.size=Z.heap.size+1 from Array.size_push _];omega) ?_;intro q2 c2 U hou hbu hou2 hat;have HOU:=zH hou;have HOU2:=zH hou2;have HAT:=zH hat;have qu:=(HBZ.out.on (W':=Z.alloc (.cells #[.bool bd,.slice biq bin bic,.slice bfq bfn bfc,.slice bwq bwn bwc,.slice bgq bgn bgc] 38)) (ext_alloc (ext_refl _) _)).outs hou2 SY.out.ne;have u0_:=qu.c 0 _ rfl;have fzU:=qu.fz;have hgU:=qu.lt;clear hou hbu hou2 hat qu))
      all_goals
       have QN:=zH (QL.more SY.out HOZ.out HPZ.out HXX.out KY.out HK2.out K3Y.out rfl HOU.out HOU2.out HAT.out)
       have hlen:∀ r:RawS,(K++[r]).length=K.length+1:=fun r=>List.length_append
       rw[hlen] at QN
       have hm1:=QN.out.st.restLen
       have hm2:=HL.out.st.restLen
       go_roundw
       case rel=>exact⟨_,_,_,_,_,_,_,_,_,_,_,_,_,_,⟨_,ss++[x],r',HQ2,QN,by rw[List.length_append];show ss.length+1≤4;rw[← HNS.out];omega⟩,rfl⟩
       case measure=>exact lt_of_eq_of_lt hm1 (by rw[hm2];have:=HLEN.out;simp only[List.length_cons];omega)
theorem Tryz.noFault (w:World):(Instr.typeAssert .nilIface 20 51 true).run Tryz.prog w=.ok (.tuple #[.agg #[.int .i64 0,.int .i64 0],.bool false]) w:=by kernel_rfl
theorem Tryz.isFault (er a:Int) (w:World):(Instr.typeAssert (.iface 51 (.agg #[.int .i64 er,.int .i64 a])) 20 51 true).run Tryz.prog w=.ok (.tuple #[.agg #[.int .i64 er,.int .i64 a],.bool true]) w:=by kernel_rfl
theorem Oper.upon_imp {P:Program} {o:Oper} {a:Act} {n n':Act→World→Prop} {Q Q':Exit→Act→World→Prop} (hn:∀ a w,n a w→n' a w) (hQ:∀ e a w,Q e a w→Q' e a w) (ho:¬ LetsOut Q) (r:Result Next) (h:o.upon P a n Q r):o.upon P a n' Q' r:=by
 unfold Oper.upon at h ⊢
 split at h
 ·exact hn _ _ h
 ·exact hn _ _ h
 ·exact hn _ _ h
 ·refine Calls.mono h fun e w'' he=>?_
  cases e with
  | returned v=>exact hn _ _ he
  | panicked c=>exact hQ _ _ _ he
  | outgrown=>exact absurd he ho
 ·exact Rows.mono h fun v w'' he=>hn _ _ he
 ·exact hQ _ _ _ h
 ·exact h.elim
theorem opsS_of_wpOps {P:Program} {ops:Array Oper} {Q:Exit→Act→World→Prop} {QS:Exit→Act→List Frame→World→Prop} {cs:List Frame} (hQ:∀ e a w,Q e a w→QS e a cs w) (ho:¬ LetsOut Q) :
  ∀ (l:List Nat) (a:Act) (w:World),wpOps P ops Q l a w→wpOpsS P ops QS l a cs w
 | [],a,w,h=>hQ _ _ _ h
 | i :: rest,a,w,h=>by
  simp only[wpOps,wpOpsS] at h ⊢
  cases hi:ops[i]? with
  | none=>rw[hi] at h;exact opsS_of_wpOps hQ ho rest a w h
  | some o =>
   rw[hi] at h
   dsimp only at h ⊢
   split
   ·rename_i hw
    rw[if_pos hw] at h
    rcases h with h | h
    ·have h2:=Oper.upon_imp (fun a w h=>opsS_of_wpOps (QS:=QS) (cs:=cs) hQ ho rest a w h) hQ ho _ h
     revert h2
     generalize (execOp a.eval o).run P w=r
     intro h2
     split
     ·exact h2.elim
     ·exact h2
    ·exact absurd h.2 ho
   ·rename_i hw
    rw[if_neg hw] at h
    exact opsS_of_wpOps hQ ho rest _ w h
theorem opsS_none {P:Program} {ops:Array Oper} {Q:Exit→Act→List Frame→World→Prop} {i:Nat} {rest:List Nat} {a:Act} {cs:List Frame} {w w':World} {o:Oper} (ho:ops[i]?=some o) (hg:o.guard=none) (hx:(execOp a.eval o).run P w=.ok .recover w') (hr:recoverD cs=none) (h:wpOpsS P ops Q rest (a.put o.dst .nilIface) cs w'):wpOpsS P ops Q (i :: rest) a cs w:=by
 simp only[wpOpsS,ho]
 rw[if_pos (by simp[Region.wanted,hg]),hx,hr]
 exact h
theorem opsS_some {P:Program} {ops:Array Oper} {Q:Exit→Act→List Frame→World→Prop} {i:Nat} {rest:List Nat} {a:Act} {cs cs':List Frame} {w w':World} {o:Oper} {v:Value} (ho:ops[i]?=some o) (hg:o.guard=none) (hx:(execOp a.eval o).run P w=.ok .recover w') (hr:recoverD cs=some (v,cs')) (h:wpOpsS P ops Q rest (a.put o.dst v) cs' w'):wpOpsS P ops Q (i :: rest) a cs w:=by
 simp only[wpOpsS,ho]
 rw[if_pos (by simp[Region.wanted,hg]),hx,hr]
 exact h
def RestOf (P:Program) (ops:Array Oper) (rest:List Oper) (c:Code) (QS:Exit→Act→List Frame→World→Prop) (cs:List Frame) (a:Act) (w:World):Prop :=
 wpList P ops (fun e a w=>match e with | .normal=>c.wp P (fun e a w=>QS e a cs w) a w | _=>False) rest a w
theorem opsS_rest {P:Program} {ops:Array Oper} {o:Oper} {rest:List Oper} (n:Nat) (hops:ops.toList=o :: rest) (hn:rest.length=n) {c:Code} {QS:Exit→Act→List Frame→World→Prop} {cs:List Frame} {a:Act} {w:World} (h:RestOf P ops rest c QS cs a w) :
  wpOpsS P ops (Exit.thenS (c.wpS P QS) QS) (List.range' 1 n) a cs w:=by
 subst hn
 refine opsS_of_wpOps (Q:=fun e a w=>match e with | .normal=>c.wp P (fun e a w=>QS e a cs w) a w | _=>False) (fun e a w h=>?_) (fun h=>?_) _ a w ?_
 ·cases e <;> first | exact wpS_of_wp h | exact h.elim
 ·obtain⟨a,w,h⟩:=h;exact h
 ·rw[wpOps_eq_wpList rest 1 (fun j=>by rw[← Array.getElem?_toList,hops];simp[Nat.add_comm 1 j])]
  exact h
theorem BkA.set {X:World} {g:Nat} {cs:List Value} (h:BkA X g cs) (k:Nat) (u:Value) (hk:k<cs.length):BkA (X.setCell ⟨g,k,none⟩ u) g (cs.set k u):=by
 have o:=Out.set (S:=fun j=>j=g) (a:=X) ⟨g,k,none⟩ u rfl
 refine⟨Nat.lt_of_lt_of_le h.lt o.size,fun j v hv=>?_,fun i=>by rw[World.frozen?_setCell];exact h.fz i⟩
 by_cases hj:j=k
 ·subst hj
  rw[List.getElem?_set_self hk] at hv
  cases hv
  exact cell_set_self (h.c j _ (List.getElem?_eq_getElem hk))
 ·rw[List.getElem?_set_ne (fun e=>hj e.symm)] at hv
  rw[World.cell?_setCell_other _ _ _ _ (by first |(simp;done) |(simp;omega))]
  exact h.c j v hv
theorem BkA.setOther {X:World} {g b o:Nat} {cs:List Value} {u:Value} (h:BkA X g cs) (hb:b≠g):BkA (X.setCell ⟨b,o,none⟩ u) g cs :=
 h.outs (Out.set (S:=fun j=>j=b) ⟨b,o,none⟩ u rfl) (fun e=>hb e.symm)
theorem runRec (ev:Operand→Value) (w:World):(execOp ev { dst:=some 6,op:=.call { callee:=.builtin .recover,args:=#[],argTypes:=#[] },type:=20,pos := "parse.go:16",after:=#[],guard:=none }).run Tryz.prog w=.ok .recover w:=by kernel_rfl
set_option maxHeartbeats 4000000 in
theorem catch_idle (gq ge ga:Nat) (w:World):CallsD Tryz.prog 9 #[.pointer (some ⟨gq,0,none⟩),.pointer (some ⟨ge,0,none⟩),.pointer (some ⟨ga,0,none⟩)] .returning w fun e u' w'=>u'=.returning∧(e=.returned (.tuple #[])∧Below w.heap.size w w'):=by
 have hf:=fun w=>Tryz.noFault w
 refine callsD_of_wpS Tryz.func9 rfl fun c₀ cs hu=>?_
 apply wpS_seq
 apply wpS_region
 show wpOpsS _ _ _ (0 :: List.range' 1 7) _ _ _
 with_reducible refine opsS_none (w':=w) (o:=?o) ?ha ?hb ?hc ?hd ?he
 case ha=>rfl
 case hb=>rfl
 case hc=>exact runRec _ w
 case hd=>simp only[recoverD,hu]
 with_reducible refine opsS_rest (rest:=?rest) (o:=?o2) 7 ?ha ?hb ?hc
 case ha=>rfl
 case hb=>rfl
 unfold RestOf
 simp only[Tryz.ntmps9,List.size_toArray,List.length_cons,List.length_nil,Nat.reduceAdd,Nat.reduceSub,Array.replicate_succ,Array.replicate_zero,List.push_toArray,List.append_toArray,List.nil_append,List.cons_append]
 go_wp2_with fail
 refine⟨rfl,.returning,by rw[← hu],.tuple #[],results_none (by rfl) _ _ _,rfl,rfl,?_⟩
 (repeat (first | exact ext_refl _ | assumption |(refine ext_alloc ?_ _) |(refine ext_drewN ?_ _) | refine ext_drew ?_ |(refine ext_set (by first |(simp;done) |(simp;omega)) _ ?_) |(refine ext_trans ?_ (by assumption))))
set_option maxHeartbeats 4000000 in
theorem catch_fault (er a gq ge ga:Nat) (q0 q1:Value) (e0 a0:Int) (older:List PanicEntry) (w:World) (hq:BkA w gq [q0,q1]) (he:BkA w ge [.int .i64 e0]) (ha:BkA w ga [.int .i64 a0]) (h1:gq<ge) (h2:ge<ga) :
  CallsD Tryz.prog 9 #[.pointer (some ⟨gq,0,none⟩),.pointer (some ⟨ge,0,none⟩),.pointer (some ⟨ga,0,none⟩)] (.panicking ({ v:=.iface 51 (.agg #[.int .i64 (er:Int),.int .i64 (a:Int)]),recovered:=false } :: older)) w fun e u' w' =>
   u'=.panicking ({ v:=.iface 51 (.agg #[.int .i64 (er:Int),.int .i64 (a:Int)]),recovered:=true } :: older)∧(e=.returned (.tuple #[])∧BkA w' gq [.slice none 0 0,.slice none 0 0]∧BkA w' ge [.int .i64 (er:Int)]∧BkA w' ga [.int .i64 (a:Int)]∧Out (fun k=>k=gq∨k=ge∨k=ga) w w'):=by
 have hf:=fun w=>Tryz.isFault (er:Int) (a:Int) w
 have q_0:=hq.c 0 _ rfl
 have q_1:=hq.c 1 _ rfl
 have e_0:=he.c 0 _ rfl
 have a_0:=ha.c 0 _ rfl
 have fq:=hq.fz
 have fe:=he.fz
 have fa:=ha.fz
 have lq:=hq.lt
 have le:=he.lt
 have la:=ha.lt
 have HQ:=zH hq
 have HE:=zH he
 have HA:=zH ha
 clear hq he ha
 refine callsD_of_wpS Tryz.func9 rfl fun c₀ cs hu=>?_
 apply wpS_seq
 apply wpS_region
 show wpOpsS _ _ _ (0 :: List.range' 1 7) _ _ _
 with_reducible refine opsS_some (w':=w) (o:=?o) (v:=.iface 51 (.agg #[.int .i64 (er:Int),.int .i64 (a:Int)])) (cs':={ c₀ with mode:=.panicking ({ v:=.iface 51 (.agg #[.int .i64 (er:Int),.int .i64 (a:Int)]),recovered:=true } :: older) } :: cs) ?ha ?hb ?hc ?hd ?he
 case ha=>rfl
 case hb=>rfl
 case hc=>exact runRec _ w
 case hd=>simp only[recoverD,hu]
 with_reducible refine opsS_rest (rest:=?rest) (o:=?o2) 7 ?ha ?hb ?hc
 case ha=>rfl
 case hb=>rfl
 unfold RestOf
 simp only[Tryz.ntmps9,List.size_toArray,List.length_cons,List.length_nil,Nat.reduceAdd,Nat.reduceSub,Array.replicate_succ,Array.replicate_zero,List.push_toArray,List.append_toArray,List.nil_append,List.cons_append]
 go_upto_region 2 with fail
 go_region
 have Q1:=(((HQ.out.set 0 (.slice none 0 0) (by simp)).set 1 (.slice none 0 0) (by simp)).setOther (b:=ge) (o:=0) (u:=.int .i64 (er:Int)) (by omega)).setOther (b:=ga) (o:=0) (u:=.int .i64 (a:Int)) (by omega)
 have E1:=(((HE.out.setOther (b:=gq) (o:=0) (u:=.slice none 0 0) (by omega)).setOther (b:=gq) (o:=1) (u:=.slice none 0 0) (by omega)).set 0 (.int .i64 (er:Int)) (by simp)).setOther (b:=ga) (o:=0) (u:=.int .i64 (a:Int)) (by omega)
 have A1:=(((HA.out.setOther (b:=gq) (o:=0) (u:=.slice none 0 0) (by omega)).setOther (b:=gq) (o:=1) (u:=.slice none 0 0) (by omega)).setOther (b:=ge) (o:=0) (u:=.int .i64 (er:Int)) (by omega)).set 0 (.int .i64 (a:Int)) (by simp)
 have O1:Out (fun k=>k=gq∨k=ge∨k=ga) w ((((w.setCell ⟨gq,0,none⟩ (.slice none 0 0)).setCell ⟨gq,1,none⟩ (.slice none 0 0)).setCell ⟨ge,0,none⟩ (.int .i64 (er:Int))).setCell ⟨ga,0,none⟩ (.int .i64 (a:Int))) :=
  (((Out.set _ _ (.inl rfl)).trans (Out.set _ _ (.inl rfl))).trans (Out.set _ _ (.inr (.inl rfl)))).trans (Out.set _ _ (.inr (.inr rfl)))
 generalize ((((w.setCell ⟨gq,0,none⟩ (.slice none 0 0)).setCell ⟨gq,1,none⟩ (.slice none 0 0)).setCell ⟨ge,0,none⟩ (.int .i64 (er:Int))).setCell ⟨ga,0,none⟩ (.int .i64 (a:Int)))=X at Q1 E1 A1 O1 ⊢
 have bX:Below X.heap.size X ((X.alloc (.cells #[.int .i64 (er:Int),.int .i64 (a:Int)] 51)).drew):=by (repeat (first | exact ext_refl _ | assumption |(refine ext_alloc ?_ _) |(refine ext_drewN ?_ _) | refine ext_drew ?_ |(refine ext_set (by first |(simp;done) |(simp;omega)) _ ?_) |(refine ext_trans ?_ (by assumption))))
 exact⟨rfl,_,rfl,.tuple #[],results_none (by rfl) _ _ _,rfl,rfl,Q1.on bX,E1.on bX,A1.on bX,O1.trans (Out.of bX)⟩
def PAns (r:PQ) (b:Nat) (w':World) (e:Ending):Prop :=
 match r with
 | .err er a=>e=.returned (.tuple #[.agg #[.slice none 0 0,.slice none 0 0],.int .i64 (er:Int),.int .i64 (a:Int)])
 | .ok q=>∃ v,QuV b w' q v∧e=.returned (.tuple #[v,.int .i64 0,.int .i64 0])
theorem PAns.mkErr {s:PQ} {er a b:Nat} {w':World} (h:s=.err er a):PAns s b w' (.returned (.tuple #[.agg #[.slice none 0 0,.slice none 0 0],.int .i64 (er:Int),.int .i64 (a:Int)])):=by rw[h];exact rfl
theorem PAns.mkOk {s:PQ} {q:Qu} {b:Nat} {w':World} {v:Value} (h:s=.ok q) (hv:QuV b w' q v):PAns s b w' (.returned (.tuple #[v,.int .i64 0,.int .i64 0])):=by rw[h];exact⟨v,hv,rfl⟩
structure P3 (W:World) (g:Nat) (q0 q1 e a:Value):Prop where
 q:BkA W g [q0,q1]
 e:BkA W (g+1) [e]
 a:BkA W (g+1+1) [a]
theorem P3.on {W W':World} {g:Nat} {q0 q1 e a:Value} (h:P3 W g q0 q1 e a) (hb:Below W.heap.size W W'):P3 W' g q0 q1 e a:=⟨h.q.on hb,h.e.on hb,h.a.on hb⟩
theorem P3.outs {S:Nat→Prop} {W W':World} {g:Nat} {q0 q1 e a:Value} (h:P3 W g q0 q1 e a) (hb:Out S W W') (hS:∀ j,S j→g+1+1<j):P3 W' g q0 q1 e a :=
 ⟨h.q.outs hb (fun e=>by have:=hS _ e;omega),h.e.outs hb (fun e=>by have:=hS _ e;omega),h.a.outs hb (fun e=>by have:=hS _ e;omega)⟩
theorem P3.set_e {W:World} {g:Nat} {q0 q1 e a:Value} (h:P3 W g q0 q1 e a) (u:Value):P3 (W.setCell ⟨g+1,0,none⟩ u) g q0 q1 u a:=⟨h.q.setOther (by omega),h.e.set 0 u (by simp),h.a.setOther (by omega)⟩
theorem P3.set_a {W:World} {g:Nat} {q0 q1 e a:Value} (h:P3 W g q0 q1 e a) (u:Value):P3 (W.setCell ⟨g+1+1,0,none⟩ u) g q0 q1 e u:=⟨h.q.setOther (by omega),h.e.setOther (by omega),h.a.set 0 u (by simp)⟩
theorem P3.set_q0 {W:World} {g:Nat} {q0 q1 e a:Value} (h:P3 W g q0 q1 e a) (u:Value):P3 (W.setCell ⟨g,0,none⟩ u) g u q1 e a:=⟨h.q.set 0 u (by simp),h.e.setOther (by omega),h.a.setOther (by omega)⟩
theorem P3.set_q1 {W:World} {g:Nat} {q0 q1 e a:Value} (h:P3 W g q0 q1 e a) (u:Value):P3 (W.setCell ⟨g,1,none⟩ u) g q0 u e a:=⟨h.q.set 1 u (by simp),h.e.setOther (by omega),h.a.setOther (by omega)⟩
abbrev W3 (w:World):World:=((w.alloc (.cells #[.slice none 0 0,.slice none 0 0] 26)).alloc (.cells #[.int .i64 0] 27)).alloc (.cells #[.int .i64 0] 3)
theorem P3.new (w:World):P3 (W3 w) w.heap.size (.slice none 0 0) (.slice none 0 0) (.int .i64 0) (.int .i64 0)∧Below w.heap.size w (W3 w):=by
 have b1:Below w.heap.size w (w.alloc (.cells #[.slice none 0 0,.slice none 0 0] 26)):=ext_alloc (ext_refl _) _
 have n1:=BkA.new w [.slice none 0 0,.slice none 0 0] 26
 have z1:(w.alloc (.cells #[.slice none 0 0,.slice none 0 0] 26)).heap.size=w.heap.size+1:=Array.size_push _
 unfold W3
 have n1:BkA (w.alloc (.cells #[.slice none 0 0,.slice none 0 0] 26)) w.heap.size [.slice none 0 0,.slice none 0 0]:=n1
 generalize w.alloc (.cells #[.slice none 0 0,.slice none 0 0] 26)=A at b1 n1 z1 ⊢
 have b2:Below A.heap.size A (A.alloc (.cells #[.int .i64 0] 27)):=ext_alloc (ext_refl _) _
 have n2:BkA (A.alloc (.cells #[.int .i64 0] 27)) A.heap.size [.int .i64 0]:=BkA.new A [.int .i64 0] 27
 have z2:(A.alloc (.cells #[.int .i64 0] 27)).heap.size=A.heap.size+1:=Array.size_push _
 rw[z1] at n2 z2
 have n1':=n1.on b2
 generalize A.alloc (.cells #[.int .i64 0] 27)=B at b2 n2 n1' z2 ⊢
 have b3:Below B.heap.size B (B.alloc (.cells #[.int .i64 0] 3)):=ext_alloc (ext_refl _) _
 have n3:BkA (B.alloc (.cells #[.int .i64 0] 3)) B.heap.size [.int .i64 0]:=BkA.new B [.int .i64 0] 3
 rw[z2] at n3
 have b12:=b1.trans (b2.mono b1.size)
 exact⟨⟨n1'.on b3,n2.on b3,n3⟩,b12.trans (b3.mono b12.size)⟩
set_option maxHeartbeats 8000000 in
theorem parse_lexbad (s:ByteArray) (w:World) (hG:GV w) (hs:s.size≤9223372036854775807) (er a:Nat) (he:er≠0) (hl:lexS s.data.toList=.err er a) :
  Calls Tryz.prog 5 #[.string s] w fun e w'=>e=.returned (.tuple #[.agg #[.slice none 0 0,.slice none 0 0],.int .i64 (er:Int),.int .i64 (a:Int)])∧Below w.heap.size w w':=by
 obtain⟨p0,b0⟩:=P3.new w
 have PZ:=zH p0
 have BZ:=zH b0
 have LX:=zH (lexC.bad s er a _ (hG.on b0) hs hl)
 have e0:((er:Int) != 0)=true:=by rw[bne_iff_ne];omega
 obtain⟨X,hX⟩:∃ X,X=W3 w:=⟨_,rfl⟩
 rw[← hX] at PZ BZ LX
 unfold W3 at hX
 clear p0 b0 hG hs hl
 go_enter_defers Tryz.func5,Tryz.ntmps5
 go_upto_region 1 with fail
 rw[← hX]
 clear hX
 have hxg:=PZ.out.a.lt
 obtain⟨g,hg⟩:∃ g,g=w.heap.size:=⟨_,rfl⟩
 rw[← hg] at PZ hxg
 rw[← hg]
 have HG:=zH hg
 clear hg
 go_wp2_with fail
 refine LX.out.mono ?_
 rintro e V ⟨⟨q,c,rfl⟩,hb⟩
 have PV:=zH (PZ.out.on hb)
 have BV:=zH (BZ.out.trans (hb.mono BZ.out.size))
 have q_0:=PV.out.q.c 0 _ rfl
 have q_1:=PV.out.q.c 1 _ rfl
 have e_0:=PV.out.e.c 0 _ rfl
 have a_0:=PV.out.a.c 0 _ rfl
 have fq:=PV.out.q.fz
 have fe:=PV.out.e.fz
 have fa:=PV.out.a.fz
 have lq:=PV.out.q.lt
 have le:=PV.out.e.lt
 have la:=PV.out.a.lt
 clear hb LX
 go_upto_region 3 with fail
 go_region
 go_wp2_with fail
 have PF:=((((((PV.out.set_e (.int .i64 (er:Int))).set_a (.int .i64 (a:Int))).set_q0 (.slice none 0 0)).set_q1 (.slice none 0 0)).set_e (.int .i64 (er:Int))).set_a (.int .i64 (a:Int))).on (ext_drew (ext_refl _))
 have BE:Below w.heap.size w (((((((V.setCell ⟨g+1,0,none⟩ (.int .i64 (er:Int))).setCell ⟨g+1+1,0,none⟩ (.int .i64 (a:Int))).setCell ⟨g,0,none⟩ (.slice none 0 0)).setCell ⟨g,1,none⟩ (.slice none 0 0)).setCell ⟨g+1,0,none⟩ (.int .i64 (er:Int))).setCell ⟨g+1+1,0,none⟩ (.int .i64 (a:Int))).drew):=by
  have hg:=HG.out
  have hb:=BV.out
  have l0:w.heap.size≤g:=by omega
  have l1:w.heap.size≤g+1:=by omega
  have l2:w.heap.size≤g+1+1:=by omega
  exact ((((((hb.setCell l1 _).setCell l2 _).setCell l0 _).setCell l0 _).setCell l1 _).setCell l2 _).drew
 clear q_0 q_1 e_0 a_0 fq fe fa lq le la
 generalize ((((((V.setCell ⟨g+1,0,none⟩ (.int .i64 (er:Int))).setCell ⟨g+1+1,0,none⟩ (.int .i64 (a:Int))).setCell ⟨g,0,none⟩ (.slice none 0 0)).setCell ⟨g,1,none⟩ (.slice none 0 0)).setCell ⟨g+1,0,none⟩ (.int .i64 (er:Int))).setCell ⟨g+1+1,0,none⟩ (.int .i64 (a:Int))).drew=Z at PF BE ⊢
 have m0:=PF.q.c 0 _ rfl
 have m1:=PF.q.c 1 _ rfl
 have m2:=PF.e.c 0 _ rfl
 have m3:=PF.a.c 0 _ rfl
 simp only[bodyPostD,Leaves,settle]
 exact⟨.tuple #[.agg #[.slice none 0 0,.slice none 0 0],.int .i64 (er:Int),.int .i64 (a:Int)],by simp[results,Tryz.results5,go_sem,m0,m1,m2,m3],rfl,BE⟩
theorem Tryz.info_tok:(Tryz.prog.info? 55).map (fun i=>(i.zero,i.size,i.bytes))=some (some (.agg #[.int .i64 0,.int .i64 0,.int .i64 0,.string ⟨#[]⟩]),4,40):=by kernel_rfl
theorem Tryz.underlying947:Tryz.prog.underlying 47=some (.slice 55):=by kernel_rfl
set_option maxHeartbeats 8000000 in
theorem parse_bad (s:ByteArray) (w:World) (hG:GV w) (hs:s.size≤9223372036854775807) (L:List Tok) (hl:lexS s.data.toList=.ok L) (er a:Nat) (hr:bQuery s.size (lev s.size 60).o L=.err er a) :
  Calls Tryz.prog 5 #[.string s] w fun e w'=>PAns (.err er a) w.heap.size w' e∧Below w.heap.size w w':=by
 obtain⟨z,hz⟩:∃ z,z=s.size:=⟨_,rfl⟩
 have hz':s.size=z:=hz.symm
 have HZ:=zH (show z=s.data.toList.length from hz.trans rfl)
 rw[← hz] at hr
 have HR:=zH hr
 clear hz hr
 obtain⟨p0,b0⟩:=P3.new w
 have PZ:=zH p0
 have BZ:=zH b0
 have LX:=zH (lexC.good s L _ (hG.on b0) hs hl)
 have HL:=zH hl
 have hmf:=Tryz.mkFunc
 obtain⟨X,hX⟩:∃ X,X=W3 w:=⟨_,rfl⟩
 rw[← hX] at PZ BZ LX
 unfold W3 at hX
 clear p0 b0 hG hs hl
 go_enter_defers Tryz.func5,Tryz.ntmps5
 go_upto_region 1 with fail
 rw[← hX]
 clear hX
 have hxg:=PZ.out.a.lt
 obtain⟨g,hg⟩:∃ g,g=w.heap.size:=⟨_,rfl⟩
 rw[← hg] at PZ hxg
 rw[← hg]
 have HG:=zH hg
 clear hg
 go_wp2_with fail
 refine LX.out.mono ?_
 rintro e V ⟨⟨q,c,rfl,ow⟩,hb⟩
 have PV:=zH (PZ.out.on hb)
 have BV:=zH (BZ.out.trans (hb.mono BZ.out.size))
 have OV:=zH ow
 have q_0:=PV.out.q.c 0 _ rfl
 have q_1:=PV.out.q.c 1 _ rfl
 have e_0:=PV.out.e.c 0 _ rfl
 have a_0:=PV.out.a.c 0 _ rfl
 have fq:=PV.out.q.fz
 have fe:=PV.out.e.fz
 have fa:=PV.out.a.fz
 have lq:=PV.out.q.lt
 have le:=PV.out.e.lt
 have la:=PV.out.a.lt
 have hXs:=hb.size
 clear hb LX ow
 obtain⟨m,hm⟩:∃ m,m=L.length:=⟨_,rfl⟩
 rw[← hm] at OV
 have HM:=zH hm
 rw[← hm]
 clear hm
 go_upto_region 4 with fail
 have P1:=(PV.out.set_e (.int .i64 0)).set_a (.int .i64 0)
 have O1:Out (fun j=>j=g+1∨j=g+1+1) V ((V.setCell ⟨g+1,0,none⟩ (.int .i64 0)).setCell ⟨g+1+1,0,none⟩ (.int .i64 0)):=(Out.set _ _ (.inl rfl)).trans (Out.set _ _ (.inr rfl))
 generalize (V.setCell ⟨g+1,0,none⟩ (.int .i64 0)).setCell ⟨g+1+1,0,none⟩ (.int .i64 0)=V1 at P1 O1 ⊢
 have PV1:=zH P1
 have OV1:=zH (OV.out.kept O1 (fun k hk e=>by have:=(OV.out.lt k e).1;omega))
 have BV1:Out (fun j=>g≤j) w V1:=(Out.of BV.out).trans (O1.mono fun j hj=>by omega)
 have BO1:=zH BV1
 have hV1:g+1+1<V1.heap.size:=P1.a.lt
 have hXV:X.heap.size≤V1.heap.size:=Nat.le_trans hXs O1.size
 clear q_0 q_1 e_0 a_0 fq fe fa lq le la P1 O1 PV BV OV BV1
 have htk:=(lexS_toks HL.out).1
 have hz2:=(lexS_toks HL.out).2
 rw[← HZ.out] at htk hz2
 have HTK:=zH htk
 have hm400:m≤400:=by rw[HM.out];exact htk.most
 clear htk
 have b1:Below V1.heap.size V1 (V1.alloc (.cells #[.int .i64 0,.int .i64 0,.int .i64 (z:Int),.string ⟨#[]⟩] 55)):=ext_alloc (ext_refl _) _
 have OWN:=zH (OV1.out.kept (Out.of (S:=fun _=>False) b1) (fun _ h=>h.elim))
 have B1:=zH b1
 have PV2:=zH (PV1.out.on b1)
 clear b1
 go_wp2_with (at_builtin;go_must (refine wp_append_at rfl _ _ 47 55 rfl Tryz.underlying947 _ 40 Tryz.info_tok rfl (by omega) tokCell_len tokCell_one X.heap.size _ L rfl OWN.out _ 1 1 [endTok z] rfl rfl 0 _ (one_block tokCell_len 55 #[.int .i64 0,.int .i64 0,.int .i64 (z:Int),.string ⟨#[]⟩] (endTok z) rfl _ rfl) ?kr ?ka ?kb ?_))
 case kr=>rw[← HM.out];unfold maxLen;simp;omega
 case ka=>rw[← HM.out];simp;omega
 case kb=>simp;omega
 intro v' Y ON bN oN hat
 have hown:=fun k (e:(Value.slice q m c).ownBlock=some k)=>(OWN.out.lt k e).1
 have PY:=PV2.out.outs oN (fun j hj=>by have:=hown j hj;omega)
 have BY:Out (fun j=>g≤j) w Y:=(BO1.out.trans (Out.of B1.out)).trans (oN.mono fun j _ hj=>by have:=hown j hj;omega)
 obtain⟨q',c',rfl,-,-,-,-⟩:=ON.arr tokCell_len
 obtain⟨-,hlc,hcm,hA⟩:=ON.toks
 obtain⟨g0,off0,rfl,hg0,hg0Y,hTok⟩:=hA 0 (by simp)
 have hlen:(L++[endTok z]).length=m+1:=by simp[HM.out]
 rw[hlen] at hlc ⊢
 have b2:Below Y.heap.size Y (Y.alloc (.cells #[.slice (some ⟨g0,off0,none⟩) (m+1) c',.int .i64 0] 57)):=ext_alloc (ext_refl _) _
 have NP:=BkA.new Y [.slice (some ⟨g0,off0,none⟩) (m+1) c',.int .i64 0] 57
 have hTok2:∀ (j:Nat) (t:Tok),(L++[endTok z])[j]?=some t→TokC (Y.alloc (.cells #[.slice (some ⟨g0,off0,none⟩) (m+1) c',.int .i64 0] 57)) g0 (off0+j*4) t:=fun j t ht=>(hTok j t ht).keep (b2.block g0 hg0Y)
 have NP:BkA (Y.alloc (.cells #[.slice (some ⟨g0,off0,none⟩) (m+1) c',.int .i64 0] 57)) Y.heap.size [.slice (some ⟨g0,off0,none⟩) (m+1) c',.int .i64 0]:=NP
 have PZ2:=zH (PY.on b2)
 have BZ2:=zH (BY.trans (Out.of b2))
 have hgY:g+1+1<Y.heap.size:=PY.a.lt
 have hZ2:=b2.size
 obtain⟨Z,hZ⟩:∃ Z,Z=Y.alloc (.cells #[.slice (some ⟨g0,off0,none⟩) (m+1) c',.int .i64 0] 57):=⟨_,rfl⟩
 rw[← hZ] at NP hTok2 PZ2 BZ2 hZ2
 have ST:PSt Z Y.heap.size z L 0:=⟨⟨g0,off0,c',by rw[← HM.out];exact NP.c 0 _ rfl,by rw[← HM.out];exact hlc,hcm,hg0Y,hTok2⟩,NP.c 1 _ rfl,NP.fz,NP.lt,HTK.out,hz2,by omega⟩
 have QA:=zH (query_any Y.heap.size z 0 (lev z 60).o (lev_shr z 60).o (dev_any Y.heap.size z 60 0 rfl).o L Z ST)
 have HZZ:=zH hZ
 obtain⟨pb,hpb⟩:∃ pb,pb=Y.heap.size:=⟨_,rfl⟩
 rw[← hpb] at QA ST hgY hZ2
 have hmf:=Tryz.mkFunc
 clear hTok2 hTok hA ON bN oN hat hown PY BY NP b2 hcm hlc hlen hg0 hg0Y hV1 hXs hxg hXV OWN OV1 PV1 PV2 B1 BO1 ST
 go_upto_region 6 with fail
 rw[← HZZ.out,← hpb]
 clear HZZ hZ hpb
 go_wp2_with fail
 refine QA.out.mono ?_
 intro e F hA
 obtain⟨rfl,hE,hO⟩:=hA.err HR.out
 have PF:=PZ2.out.outs hO (fun j hj=>by omega)
 have BF:=zH (BZ2.out.trans (hO.mono fun j _ (hj:j=pb)=>by omega))
 clear hA hE QA
 go_wp2_with fail
 refine leaves_cons (f:=9) (args:=#[.pointer (some ⟨g,0,none⟩),.pointer (some ⟨g+1,0,none⟩),.pointer (some ⟨g+1+1,0,none⟩)]) (by simp) (by simp[go_sem]) ?_
 refine (catch_fault er a g (g+1) (g+1+1) _ _ _ _ [] F PF.q PF.e PF.a (by omega) (by omega)).mono ?_
 rintro e2 u2 w2 ⟨rfl,rfl,Q1,E1,A1,O1⟩
 have m0:=Q1.c 0 _ rfl
 have m1:=Q1.c 1 _ rfl
 have m2:=E1.c 0 _ rfl
 have m3:=A1.c 0 _ rfl
 simp only[Leaves,settle]
 exact⟨.tuple #[.agg #[.slice none 0 0,.slice none 0 0],.int .i64 (er:Int),.int .i64 (a:Int)],by simp[results,Tryz.results5,go_sem,m0,m1,m2,m3],PAns.mkErr rfl,(BF.out.trans (O1.mono fun j _ hj=>by show g≤j;omega)).below (Nat.le_refl _) (fun j hj=>by have:=HG.out;omega)⟩
set_option maxHeartbeats 8000000 in
theorem parse_good (s:ByteArray) (w:World) (hG:GV w) (hs:s.size≤9223372036854775807) (L:List Tok) (hl:lexS s.data.toList=.ok L) (qu:Qu) (r:List Tok) (hr:bQuery s.size (lev s.size 60).o L=.ok qu r) :
  Calls Tryz.prog 5 #[.string s] w fun e w'=>PAns (.ok qu) w.heap.size w' e∧Below w.heap.size w w':=by
 obtain⟨z,hz⟩:∃ z,z=s.size:=⟨_,rfl⟩
 have hz':s.size=z:=hz.symm
 have HZ:=zH (show z=s.data.toList.length from hz.trans rfl)
 rw[← hz] at hr
 have HR:=zH hr
 clear hz hr
 obtain⟨p0,b0⟩:=P3.new w
 have PZ:=zH p0
 have BZ:=zH b0
 have LX:=zH (lexC.good s L _ (hG.on b0) hs hl)
 have HL:=zH hl
 have hmf:=Tryz.mkFunc
 obtain⟨X,hX⟩:∃ X,X=W3 w:=⟨_,rfl⟩
 rw[← hX] at PZ BZ LX
 unfold W3 at hX
 clear p0 b0 hG hs hl
 go_enter_defers Tryz.func5,Tryz.ntmps5
 go_upto_region 1 with fail
 rw[← hX]
 clear hX
 have hxg:=PZ.out.a.lt
 obtain⟨g,hg⟩:∃ g,g=w.heap.size:=⟨_,rfl⟩
 rw[← hg] at PZ hxg
 rw[← hg]
 have HG:=zH hg
 clear hg
 go_wp2_with fail
 refine LX.out.mono ?_
 rintro e V ⟨⟨q,c,rfl,ow⟩,hb⟩
 have PV:=zH (PZ.out.on hb)
 have BV:=zH (BZ.out.trans (hb.mono BZ.out.size))
 have OV:=zH ow
 have q_0:=PV.out.q.c 0 _ rfl
 have q_1:=PV.out.q.c 1 _ rfl
 have e_0:=PV.out.e.c 0 _ rfl
 have a_0:=PV.out.a.c 0 _ rfl
 have fq:=PV.out.q.fz
 have fe:=PV.out.e.fz
 have fa:=PV.out.a.fz
 have lq:=PV.out.q.lt
 have le:=PV.out.e.lt
 have la:=PV.out.a.lt
 have hXs:=hb.size
 clear hb LX ow
 obtain⟨m,hm⟩:∃ m,m=L.length:=⟨_,rfl⟩
 rw[← hm] at OV
 have HM:=zH hm
 rw[← hm]
 clear hm
 go_upto_region 4 with fail
 have P1:=(PV.out.set_e (.int .i64 0)).set_a (.int .i64 0)
 have O1:Out (fun j=>j=g+1∨j=g+1+1) V ((V.setCell ⟨g+1,0,none⟩ (.int .i64 0)).setCell ⟨g+1+1,0,none⟩ (.int .i64 0)):=(Out.set _ _ (.inl rfl)).trans (Out.set _ _ (.inr rfl))
 generalize (V.setCell ⟨g+1,0,none⟩ (.int .i64 0)).setCell ⟨g+1+1,0,none⟩ (.int .i64 0)=V1 at P1 O1 ⊢
 have PV1:=zH P1
 have OV1:=zH (OV.out.kept O1 (fun k hk e=>by have:=(OV.out.lt k e).1;omega))
 have BV1:Out (fun j=>g≤j) w V1:=(Out.of BV.out).trans (O1.mono fun j hj=>by omega)
 have BO1:=zH BV1
 have hV1:g+1+1<V1.heap.size:=P1.a.lt
 have hXV:X.heap.size≤V1.heap.size:=Nat.le_trans hXs O1.size
 clear q_0 q_1 e_0 a_0 fq fe fa lq le la P1 O1 PV BV OV BV1
 have htk:=(lexS_toks HL.out).1
 have hz2:=(lexS_toks HL.out).2
 rw[← HZ.out] at htk hz2
 have HTK:=zH htk
 have hm400:m≤400:=by rw[HM.out];exact htk.most
 clear htk
 have b1:Below V1.heap.size V1 (V1.alloc (.cells #[.int .i64 0,.int .i64 0,.int .i64 (z:Int),.string ⟨#[]⟩] 55)):=ext_alloc (ext_refl _) _
 have OWN:=zH (OV1.out.kept (Out.of (S:=fun _=>False) b1) (fun _ h=>h.elim))
 have B1:=zH b1
 have PV2:=zH (PV1.out.on b1)
 clear b1
 go_wp2_with (at_builtin;go_must (refine wp_append_at rfl _ _ 47 55 rfl Tryz.underlying947 _ 40 Tryz.info_tok rfl (by omega) tokCell_len tokCell_one X.heap.size _ L rfl OWN.out _ 1 1 [endTok z] rfl rfl 0 _ (one_block tokCell_len 55 #[.int .i64 0,.int .i64 0,.int .i64 (z:Int),.string ⟨#[]⟩] (endTok z) rfl _ rfl) ?kr ?ka ?kb ?_))
 case kr=>rw[← HM.out];unfold maxLen;simp;omega
 case ka=>rw[← HM.out];simp;omega
 case kb=>simp;omega
 intro v' Y ON bN oN hat
 have hown:=fun k (e:(Value.slice q m c).ownBlock=some k)=>(OWN.out.lt k e).1
 have PY:=PV2.out.outs oN (fun j hj=>by have:=hown j hj;omega)
 have BY:Out (fun j=>g≤j) w Y:=(BO1.out.trans (Out.of B1.out)).trans (oN.mono fun j _ hj=>by have:=hown j hj;omega)
 obtain⟨q',c',rfl,-,-,-,-⟩:=ON.arr tokCell_len
 obtain⟨-,hlc,hcm,hA⟩:=ON.toks
 obtain⟨g0,off0,rfl,hg0,hg0Y,hTok⟩:=hA 0 (by simp)
 have hlen:(L++[endTok z]).length=m+1:=by simp[HM.out]
 rw[hlen] at hlc ⊢
 have b2:Below Y.heap.size Y (Y.alloc (.cells #[.slice (some ⟨g0,off0,none⟩) (m+1) c',.int .i64 0] 57)):=ext_alloc (ext_refl _) _
 have NP:=BkA.new Y [.slice (some ⟨g0,off0,none⟩) (m+1) c',.int .i64 0] 57
 have hTok2:∀ (j:Nat) (t:Tok),(L++[endTok z])[j]?=some t→TokC (Y.alloc (.cells #[.slice (some ⟨g0,off0,none⟩) (m+1) c',.int .i64 0] 57)) g0 (off0+j*4) t:=fun j t ht=>(hTok j t ht).keep (b2.block g0 hg0Y)
 have NP:BkA (Y.alloc (.cells #[.slice (some ⟨g0,off0,none⟩) (m+1) c',.int .i64 0] 57)) Y.heap.size [.slice (some ⟨g0,off0,none⟩) (m+1) c',.int .i64 0]:=NP
 have PZ2:=zH (PY.on b2)
 have BZ2:=zH (BY.trans (Out.of b2))
 have hgY:g+1+1<Y.heap.size:=PY.a.lt
 have hZ2:=b2.size
 obtain⟨Z,hZ⟩:∃ Z,Z=Y.alloc (.cells #[.slice (some ⟨g0,off0,none⟩) (m+1) c',.int .i64 0] 57):=⟨_,rfl⟩
 rw[← hZ] at NP hTok2 PZ2 BZ2 hZ2
 have ST:PSt Z Y.heap.size z L 0:=⟨⟨g0,off0,c',by rw[← HM.out];exact NP.c 0 _ rfl,by rw[← HM.out];exact hlc,hcm,hg0Y,hTok2⟩,NP.c 1 _ rfl,NP.fz,NP.lt,HTK.out,hz2,by omega⟩
 have QA:=zH (query_any Y.heap.size z 0 (lev z 60).o (lev_shr z 60).o (dev_any Y.heap.size z 60 0 rfl).o L Z ST)
 have HZZ:=zH hZ
 obtain⟨pb,hpb⟩:∃ pb,pb=Y.heap.size:=⟨_,rfl⟩
 rw[← hpb] at QA ST hgY hZ2
 have hmf:=Tryz.mkFunc
 clear hTok2 hTok hA ON bN oN hat hown PY BY NP b2 hcm hlc hlen hg0 hg0Y hV1 hXs hxg hXV OWN OV1 PV1 PV2 B1 BO1 ST
 go_upto_region 6 with fail
 rw[← HZZ.out,← hpb]
 clear HZZ hZ hpb
 go_wp2_with fail
 refine QA.out.mono ?_
 intro e F hA
 obtain⟨⟨v,rfl,hv⟩,-,hO⟩:=hA.ok HR.out
 have HV:=zH hv
 obtain⟨qs,ns,cs,qo,no,co,rfl,-,-,-,-⟩:=hv
 have PF:=zH (PZ2.out.outs hO (fun j hj=>by omega))
 have hZF:=hO.size
 have BF:=zH (BZ2.out.trans (hO.mono fun j _ (hj:j=pb)=>by omega))
 have q_0:=PF.out.q.c 0 _ rfl
 have q_1:=PF.out.q.c 1 _ rfl
 have e_0:=PF.out.e.c 0 _ rfl
 have a_0:=PF.out.a.c 0 _ rfl
 have fq:=PF.out.q.fz
 have fe:=PF.out.e.fz
 have fa:=PF.out.a.fz
 have lq:=PF.out.q.lt
 have le:=PF.out.e.lt
 have la:=PF.out.a.lt
 clear hA QA hO
 go_wp2_with fail
 refine leaves_cons (f:=9) (args:=#[.pointer (some ⟨g,0,none⟩),.pointer (some ⟨g+1,0,none⟩),.pointer (some ⟨g+1+1,0,none⟩)]) (by simp) (by simp[go_sem]) ?_
 have P4:=(((PF.out.set_q0 (.slice qs ns cs)).set_q1 (.slice qo no co)).set_e (.int .i64 0)).set_a (.int .i64 0)
 have O4:Out (fun j=>g≤j∧j≤g+1+1) F ((((F.setCell ⟨g,0,none⟩ (.slice qs ns cs)).setCell ⟨g,1,none⟩ (.slice qo no co)).setCell ⟨g+1,0,none⟩ (.int .i64 0)).setCell ⟨g+1+1,0,none⟩ (.int .i64 0)):=(((Out.set _ _ ⟨by show g≤g;omega,by show g≤g+1+1;omega⟩).trans (Out.set _ _ ⟨by show g≤g;omega,by show g≤g+1+1;omega⟩)).trans (Out.set _ _ ⟨by show g≤g+1;omega,by show g+1≤g+1+1;omega⟩)).trans (Out.set _ _ ⟨by show g≤g+1+1;omega,by show g+1+1≤g+1+1;omega⟩)
 generalize (((F.setCell ⟨g,0,none⟩ (.slice qs ns cs)).setCell ⟨g,1,none⟩ (.slice qo no co)).setCell ⟨g+1,0,none⟩ (.int .i64 0)).setCell ⟨g+1+1,0,none⟩ (.int .i64 0)=F4 at P4 O4 ⊢
 refine (catch_idle g (g+1) (g+1+1) F4).mono ?_
 rintro e2 u2 w2 ⟨rfl,rfl,bI⟩
 have P5:=P4.on bI
 have O5:=O4.trans (Out.of bI)
 have m0:=P5.q.c 0 _ rfl
 have m1:=P5.q.c 1 _ rfl
 have m2:=P5.e.c 0 _ rfl
 have m3:=P5.a.c 0 _ rfl
 have VF:QuV w.heap.size w2 qu (.agg #[.slice qs ns cs,.slice qo no co]):=HV.out.on O5.size (fun j hj hl=>O5.block j hl (fun e=>by omega)) (by have:=HG.out;omega)
 simp only[Leaves,settle]
 exact⟨.tuple #[.agg #[.slice qs ns cs,.slice qo no co],.int .i64 0,.int .i64 0],by simp[results,Tryz.results5,go_sem,m0,m1,m2,m3],PAns.mkOk rfl VF,(BF.out.trans (O5.mono fun j _ hj=>hj.1)).below (Nat.le_refl _) (fun j hj=>by have:=HG.out;omega)⟩
theorem parse_any (s:ByteArray) (w:World) (hG:GV w) (hs:s.size≤9223372036854775807):Calls Tryz.prog 5 #[.string s] w fun e w'=>PAns (parseS s.data.toList) w.heap.size w' e∧Below w.heap.size w w':=by
 unfold parseS
 cases hl:lexS s.data.toList with
 | err er a =>
  have he:er≠0:=by
   unfold lexS at hl
   split at hl
   ·cases hl;decide
   ·rcases (lexL_errs _ _ _ _ _ hl).1 with h | h <;> omega
  exact (parse_lexbad s w hG hs er a he hl).mono fun e w' h=>⟨by rw[h.1];exact PAns.mkErr rfl,h.2⟩
 | ok L =>
  dsimp only
  cases hr:bQuery s.data.toList.length (lev s.data.toList.length 60).o L with
  | err er a=>exact parse_bad s w hG hs L hl er a hr
  | ok q r=>exact parse_good s w hG hs L hl q r hr
end Go.Proofs.YtapbglhjamddbaaGreatDoor
