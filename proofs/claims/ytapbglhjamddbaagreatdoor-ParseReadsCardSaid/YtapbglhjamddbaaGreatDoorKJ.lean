/- A part of the proof. -/
import Derived.Test.YtapbglhjamddbaaGreatDoorQaC
import Derived.Test.YtapbglhjamddbaaGreatDoorKI
import Derived.Test.YtapbglhjamddbaaGreatDoorKG
import Derived.StillTailTactics
import Derived.Test.YtapbglhjamddbaaGreatDoorQaE
import Derived.Test.YtapbglhjamddbaaGreatDoorHd
set_option linter.unusedSimpArgs false
set_option linter.unusedVariables false
namespace Go.Proofs.YtapbglhjamddbaaGreatDoor
open Go.RowKit Go.Deep
set_option maxRecDepth 100000
def EqX (x:Ex):Prop:=∀ (cs ds:List Value) (w:World),ExM w x cs→ExM w x ds→Calls Tryz.prog 36 #[.agg cs.toArray,.agg ds.toArray] w fun e w'=>e=.returned (.bool true)∧Below w.heap.size w w'
structure Bx9 (W:World) (g:Nat) (op:Int) (v:Val) (rel col n:Int) (s:ByteArray) (q:Option Addr) (len c:Nat):Prop where
 lt:g<W.heap.size
 c0:W.cell? ⟨g,0,none⟩=some (.int .i64 op)
 c1:W.cell? ⟨g,1,none⟩=some (.int .i64 v.k)
 c2:W.cell? ⟨g,2,none⟩=some (.int .i64 v.n)
 c3:W.cell? ⟨g,3,none⟩=some (.string v.s)
 c4:W.cell? ⟨g,4,none⟩=some (.int .i64 rel)
 c5:W.cell? ⟨g,5,none⟩=some (.int .i64 col)
 c6:W.cell? ⟨g,6,none⟩=some (.int .i64 n)
 c7:W.cell? ⟨g,7,none⟩=some (.string s)
 c8:W.cell? ⟨g,8,none⟩=some (.slice q len c)
theorem Bx9.of {W:World} {g:Nat} {op:Int} {v:Val} {rel col n:Int} {s:ByteArray} {q:Option Addr} {len c:Nat} (h:BkA W g (exCells op v rel col n s q len c)):Bx9 W g op v rel col n s q len c :=
 ⟨h.lt,h.c 0 _ rfl,h.c 1 _ rfl,h.c 2 _ rfl,h.c 3 _ rfl,h.c 4 _ rfl,h.c 5 _ rfl,h.c 6 _ rfl,h.c 7 _ rfl,h.c 8 _ rfl⟩
theorem ExL.nine {w:World} {q:Option Addr} {l:List Ex} {j:Nat} {x:Ex} (h:ExL w q 0 l) (hx:l[j]?=some x):∃ g off op v rel col n s p len c,q=some ⟨g,off,none⟩∧g<w.heap.size∧ExM w x (exCells op v rel col n s p len c) ∧
  (w.cell? ⟨g,off+j*9,none⟩=some (.int .i64 op)∧w.cell? ⟨g,off+j*9+1,none⟩=some (.int .i64 v.k)∧w.cell? ⟨g,off+j*9+2,none⟩=some (.int .i64 v.n)∧w.cell? ⟨g,off+j*9+3,none⟩=some (.string v.s)∧w.cell? ⟨g,off+j*9+4,none⟩=some (.int .i64 rel) ∧
   w.cell? ⟨g,off+j*9+5,none⟩=some (.int .i64 col)∧w.cell? ⟨g,off+j*9+6,none⟩=some (.int .i64 n)∧w.cell? ⟨g,off+j*9+7,none⟩=some (.string s)∧w.cell? ⟨g,off+j*9+8,none⟩=some (.slice p len c)):=by
 obtain⟨g,off,cs,hq,hg,hm,hc⟩:=ExL.at_ h hx
 rw[Nat.zero_add] at hc
 obtain⟨op,v,rel,col,n,s,l'⟩:=x
 have hm2:=hm
 rw[ExM.iff] at hm
 obtain⟨-,p,c,rfl,-,-⟩:=hm
 exact⟨g,off,op,v,rel,col,n,s,p,_,c,hq,hg,hm2,by simpa using hc 0 _ rfl,hc 1 _ rfl,hc 2 _ rfl,hc 3 _ rfl,hc 4 _ rfl,hc 5 _ rfl,hc 6 _ rfl,hc 7 _ rfl,hc 8 _ rfl⟩
set_option maxHeartbeats 8000000 in
theorem eqx_mk (op:Int) (v:Val) (rel col n:Int) (s:ByteArray) (l:List Ex) (h2:l.length≤2) (IH:∀ y∈l,EqX y):EqX (.mk op v rel col n s l):=by
 intro cs ds w hx hy
 rw[ExM.iff] at hx hy
 obtain⟨-,qa,ca,rfl,-,hla⟩:=hx
 obtain⟨-,qb,cb,rfl,-,hlb⟩:=hy
 have HI:=zH IH
 have HQ:=zH h2
 have A0:=BkA.new w (exCells op v rel col n s qa l.length ca) 44
 have B0:Below w.heap.size w (w.alloc (.cells (exCells op v rel col n s qa l.length ca).toArray 44)):=ext_alloc (ext_refl _) _
 obtain⟨V,hV⟩:∃ V,V=w.alloc (.cells (exCells op v rel col n s qa l.length ca).toArray 44):=⟨_,rfl⟩
 rw[← hV] at A0 B0
 have A1:=BkA.new V (exCells op v rel col n s qb l.length cb) 44
 have B1:Below V.heap.size V (V.alloc (.cells (exCells op v rel col n s qb l.length cb).toArray 44)):=ext_alloc (ext_refl _) _
 obtain⟨W,hW⟩:∃ W,W=V.alloc (.cells (exCells op v rel col n s qb l.length cb).toArray 44):=⟨_,rfl⟩
 rw[← hW] at A1 B1
 have A2:=A0.on B1
 have hz:V.heap.size=w.heap.size+1:=by rw[hV];simp
 rw[hz] at A1
 have HB:=zH (B0.trans (B1.mono B0.size))
 have HLA:=zH (ExL.ext HB.out _ _ _ hla)
 have HLB:=zH (ExL.ext HB.out _ _ _ hlb)
 have HA:=zH A2
 have HC:=zH A1
 have hn:=Tryz.neqVal5 v v
 simp only[beq_self_eq_true,Bool.and_self,Bool.not_true] at hn
 obtain⟨m,hm⟩:∃ m,m=l.length:=⟨_,rfl⟩
 have hm2:m≤2:=by omega
 rw[← hm] at HA HC hV hW ⊢
 have HM:=zH hm
 clear A0 A1 A2 B0 B1 hm h2 IH hla hlb
 go_enter Tryz.func36,Tryz.ntmps36
 go_upto_region 1 with fail
 rw[← hV,← hW]
 clear hV hW hz V
 obtain⟨g,hg⟩:∃ g,g=w.heap.size:=⟨_,rfl⟩
 rw[← hg] at HA HC
 have HG:=zH hg
 rw[← hg]
 clear hg
 obtain⟨lt,c0,c1,c2,c3,c4,c5,c6,c7,c8⟩:=Bx9.of HA.out
 obtain⟨lt',d0,d1,d2,d3,d4,d5,d6,d7,d8⟩:=Bx9.of HC.out
 go_wp2_with fail
 clear hn c0 c1 c2 c3 c4 c5 c6 c7 d0 d1 d2 d3 d4 d5 d6 d7 c8 d8 lt lt'
 go_loopw [5] (fun va wr=>∃ i:Nat,va=.int .i64 i∧i≤m∧Below W.heap.size W wr) (fun va _=>3 - (intOf va).toNat)
 case atStart=>exact⟨0,by go_num,by omega,ext_refl _⟩
 case round =>
  obtain⟨i,rfl,hi,hbr⟩:=hrel
  have BR:=zH hbr
  obtain⟨lt,c0,c1,c2,c3,c4,c5,c6,c7,c8⟩:=Bx9.of (HA.out.on hbr)
  obtain⟨lt',d0,d1,d2,d3,d4,d5,d6,d7,d8⟩:=Bx9.of (HC.out.on hbr)
  clear c0 c1 c2 c3 c4 c5 c6 c7 d0 d1 d2 d3 d4 d5 d6 d7 hbr
  by_cases hlt:i<m
  ·obtain⟨y,hy⟩:∃ y,l[i]?=some y:=⟨_,List.getElem?_eq_getElem (by rw[← HM.out];exact hlt)⟩
   obtain⟨ga,oa,op1,v1,rel1,col1,n1,s1,p1,len1,ca1,rfl,lga,hxa,a0,a1,a2,a3,a4,a5,a6,a7,a8⟩:=(ExL.ext BR.out _ _ _ HLA.out).nine hy
   obtain⟨gb,ob,op2,v2,rel2,col2,n2,s2,p2,len2,cb1,rfl,lgb,hxb,b0,b1,b2,b3,b4,b5,b6,b7,b8⟩:=(ExL.ext BR.out _ _ _ HLB.out).nine hy
   have CY:=zH (HI.out y (List.mem_of_getElem? hy))
   have XA:=zH hxa
   have XB:=zH hxb
   have hw1:wrap64 ((i:Int)+1)=((i+1:Nat):Int):=by unfold wrap64;omega
   clear hxa hxb hy
   go_wp2_with fail
   go_still_tail 10,(by kernel_rfl)
   change wpList _ _ _ _ _ wr.drew
   have hd0:Below wr.heap.size wr wr.drew:=(Below.refl _ _).drew
   have Ha:=ExM.ext hd0 _ _ XA.out
   have Hb:=ExM.ext hd0 _ _ XB.out
   have BD:=BR.out.trans (hd0.mono BR.out.size)
   clear hd0 a0 a1 a2 a3 a4 a5 a6 a7 a8 b0 b1 b2 b3 b4 b5 b6 b7 b8 c8 d8 lt lt' lga lgb
   generalize wr.drew=U at Ha Hb BD ⊢
   have XA2:=zH Ha
   have XB2:=zH Hb
   have BU:=zH BD
   clear Ha Hb BD
   go_wp2_with fail
   refine (CY.out _ _ U XA2.out XB2.out).mono ?_
   rintro e Y ⟨rfl,hbY⟩
   have BY:=zH (BU.out.trans (hbY.mono BU.out.size))
   clear hbY
   go_wp2_with fail
   case roundEnd=>exact⟨⟨i+1,by rw[Int.natCast_succ],by omega,BY.out⟩,by show 3 - ((i:Int)+1).toNat<3 - (i:Int).toNat;omega⟩
  ·have hi':i=m:=by omega
   subst hi'
   go_wp2_with fail
   exact bodyPost_ret (v:=.bool true) (by simp[results,Tryz.results36,go_sem]) rfl ⟨rfl,HB.out.trans (BR.out.mono HB.out.size)⟩
theorem deepL_mem9:∀ {l:List Ex} {y:Ex},y∈l→y.deep≤deepL l
 | x :: r,y,h=>by
  rw[deepL]
  rcases List.mem_cons.1 h with rfl | h
  ·omega
  ·have:=deepL_mem9 h
   omega
theorem deep_pos9 (x:Ex):1≤x.deep:=by obtain⟨op,v,rel,col,n,s,l⟩:=x;rw[Ex.deep];omega
theorem eqx_any:∀ (k:Nat) (x:Ex),x.deep≤k→x.two=true→EqX x
 | 0,x,h,_=>absurd (deep_pos9 x) (by omega)
 | k+1,.mk op v rel col n s l,h,ho=>eqx_mk op v rel col n s l (two_parts ho).1 fun y hy=>eqx_any k y (by rw[Ex.deep] at h;have:=deepL_mem9 hy;omega) ((two_parts ho).2 y hy)
set_option maxHeartbeats 8000000 in
theorem exps_any (l:List Ex) (hl:l.length≤9) (IH:∀ y∈l,EqX y) (qa qb:Option Addr) (ca cb:Nat) (w:World) (ha:ExL w qa 0 l) (hb:ExL w qb 0 l):Calls Tryz.prog 37 #[.slice qa l.length ca,.slice qb l.length cb] w fun e w'=>e=.returned (.bool true)∧Below w.heap.size w w':=by
 have HI:=zH IH
 have HLA:=zH ha
 have HLB:=zH hb
 obtain⟨m,hm⟩:∃ m,m=l.length:=⟨_,rfl⟩
 have hm2:m≤9:=by omega
 rw[← hm]
 have HM:=zH hm
 clear hm hl IH ha hb
 go_enter Tryz.func37,Tryz.ntmps37
 go_wp2_with fail
 go_loopw [5] (fun va wr=>∃ i:Nat,va=.int .i64 i∧i≤m∧Below w.heap.size w wr) (fun va _=>10 - (intOf va).toNat)
 case atStart=>exact⟨0,by go_num,by omega,ext_refl _⟩
 case round =>
  obtain⟨i,rfl,hi,hbr⟩:=hrel
  have BR:=zH hbr
  clear hbr
  by_cases hlt:i<m
  ·obtain⟨y,hy⟩:∃ y,l[i]?=some y:=⟨_,List.getElem?_eq_getElem (by rw[← HM.out];exact hlt)⟩
   obtain⟨ga,oa,op1,v1,rel1,col1,n1,s1,p1,len1,ca1,rfl,lga,hxa,a0,a1,a2,a3,a4,a5,a6,a7,a8⟩:=(ExL.ext BR.out _ _ _ HLA.out).nine hy
   obtain⟨gb,ob,op2,v2,rel2,col2,n2,s2,p2,len2,cb1,rfl,lgb,hxb,b0,b1,b2,b3,b4,b5,b6,b7,b8⟩:=(ExL.ext BR.out _ _ _ HLB.out).nine hy
   have CY:=zH (HI.out y (List.mem_of_getElem? hy))
   have XA:=zH hxa
   have XB:=zH hxb
   have hw1:wrap64 ((i:Int)+1)=((i+1:Nat):Int):=by unfold wrap64;omega
   clear hxa hxb hy
   go_wp2_with fail
   go_still_tail 8,(by kernel_rfl)
   change wpList _ _ _ _ _ wr.drew
   have hd0:Below wr.heap.size wr wr.drew:=(Below.refl _ _).drew
   have Ha:=ExM.ext hd0 _ _ XA.out
   have Hb:=ExM.ext hd0 _ _ XB.out
   have BD:=BR.out.trans (hd0.mono BR.out.size)
   clear hd0 a0 a1 a2 a3 a4 a5 a6 a7 a8 b0 b1 b2 b3 b4 b5 b6 b7 b8 lga lgb
   generalize wr.drew=U at Ha Hb BD ⊢
   have XA2:=zH Ha
   have XB2:=zH Hb
   have BU:=zH BD
   clear Ha Hb BD
   go_wp2_with fail
   refine (CY.out _ _ U XA2.out XB2.out).mono ?_
   rintro e Y ⟨rfl,hbY⟩
   have BY:=zH (BU.out.trans (hbY.mono BU.out.size))
   clear hbY
   go_wp2_with fail
   case roundEnd=>exact⟨⟨i+1,by rw[Int.natCast_succ],by omega,BY.out⟩,by show 10 - ((i:Int)+1).toNat<10 - (i:Int).toNat;omega⟩
  ·have hi':i=m:=by omega
   subst hi'
   go_wp2_with fail
   exact bodyPost_ret (v:=.bool true) (by simp[results,Tryz.results37,go_sem]) rfl ⟨rfl,BR.out⟩
theorem exx {l:List Ex} (h:∀ x∈l,TwoE x):∀ y∈l,EqX y:=fun y hy=>eqx_any _ y (Nat.le_refl _) (h y hy)
structure SelM (w:World) (x:Sel) (r:RawS):Prop where
 d:r.d=x.distinct
 i:r.i.n=x.items.length∧r.i.n≤r.i.c∧LsM elI w (fun _=>True) r.i.q x.items
 f:r.f.n=x.froms.length∧r.f.n≤r.f.c∧LsM elF w (fun _=>True) r.f.q x.froms
 wh:r.w.n=x.where_.length∧r.w.n≤r.w.c∧ExL w r.w.q 0 x.where_
 g:r.g.n=x.group.length∧r.g.n≤r.g.c∧ExL w r.g.q 0 x.group
theorem SelM.of {w:World} {P:Nat→Prop} {x:Sel} {r:RawS} (h:elS.rel w P x r):SelM w x r :=
 ⟨h.1,⟨h.2.1.1,h.2.1.2.1,h.2.1.2.2.on elI_ok (Nat.le_refl _) (fun _ _ _=>rfl) (fun _ _ _=>trivial)⟩,⟨h.2.2.1.1,h.2.2.1.2.1,h.2.2.1.2.2.on elF_ok (Nat.le_refl _) (fun _ _ _=>rfl) (fun _ _ _=>trivial)⟩,⟨h.2.2.2.1.1,h.2.2.2.1.2.1,ExLP.toL _ _ _ h.2.2.2.1.2.2⟩,⟨h.2.2.2.2.1,h.2.2.2.2.2.1,ExLP.toL _ _ _ h.2.2.2.2.2.2⟩⟩
theorem SelM.on {w w':World} {x:Sel} {r:RawS} (h:SelM w x r) (hb:Below w.heap.size w w'):SelM w' x r :=
 ⟨h.d,⟨h.i.1,h.i.2.1,h.i.2.2.on elI_ok hb.size (fun g _ hl=>hb.block g hl) (fun _ _ _=>trivial)⟩,⟨h.f.1,h.f.2.1,h.f.2.2.on elF_ok hb.size (fun g _ hl=>hb.block g hl) (fun _ _ _=>trivial)⟩,⟨h.wh.1,h.wh.2.1,ExL.ext hb _ _ _ h.wh.2.2⟩,⟨h.g.1,h.g.2.1,ExL.ext hb _ _ _ h.g.2.2⟩⟩
theorem LsM.item {w:World} {P:Nat→Prop} {q:Option Addr} {L:List It} {j:Nat} {x:It} (h:LsM elI w P q L) (hx:L[j]?=some x):∃ g off op v rel col n s p len c,q=some ⟨g,off,none⟩∧g<w.heap.size∧ExM w x.e (exCells op v rel col n s p len c)∧w.cell? ⟨g,off+j*10,none⟩=some (.int .i64 x.agg) ∧
  (w.cell? ⟨g,off+j*10+1,none⟩=some (.int .i64 op)∧w.cell? ⟨g,off+j*10+1+1,none⟩=some (.int .i64 v.k)∧w.cell? ⟨g,off+j*10+1+2,none⟩=some (.int .i64 v.n)∧w.cell? ⟨g,off+j*10+1+3,none⟩=some (.string v.s)∧w.cell? ⟨g,off+j*10+1+4,none⟩=some (.int .i64 rel) ∧
   w.cell? ⟨g,off+j*10+1+5,none⟩=some (.int .i64 col)∧w.cell? ⟨g,off+j*10+1+6,none⟩=some (.int .i64 n)∧w.cell? ⟨g,off+j*10+1+7,none⟩=some (.string s)∧w.cell? ⟨g,off+j*10+1+8,none⟩=some (.slice p len c)):=by
 obtain⟨g,off,r,hq,hg,-,hr,hc⟩:=h j x hx
 obtain⟨h1,h2⟩:=hr
 have hc':∀ (k:Nat) u,r.cells[k]?=some u→w.cell? ⟨g,off+j*10+k,none⟩=some u:=hc
 obtain⟨ag,⟨op,v,rel,col,n,s,p,len,c⟩⟩:=r
 dsimp only at h1
 subst h1
 exact⟨g,off,op,v,rel,col,n,s,p,len,c,hq,hg,ExMP.toM _ _ h2,hc' 0 _ rfl,hc' 1 _ rfl,hc' 2 _ rfl,hc' 3 _ rfl,hc' 4 _ rfl,hc' 5 _ rfl,hc' 6 _ rfl,hc' 7 _ rfl,hc' 8 _ rfl,hc' 9 _ rfl⟩
theorem LsM.fr {w:World} {P:Nat→Prop} {q:Option Addr} {L:List Fr} {j:Nat} {x:Fr} (h:LsM elF w P q L) (hx:L[j]?=some x):∃ g off p c,q=some ⟨g,off,none⟩∧g<w.heap.size∧x.on.length≤c∧ExL w p 0 x.on ∧
  w.cell? ⟨g,off+j*4,none⟩=some (.string (bsB x.table))∧w.cell? ⟨g,off+j*4+1,none⟩=some (.string (bsB x.alias))∧w.cell? ⟨g,off+j*4+2,none⟩=some (.int .i64 x.kind)∧w.cell? ⟨g,off+j*4+3,none⟩=some (.slice p x.on.length c):=by
 obtain⟨g,off,r,hq,hg,-,hr,hc⟩:=h j x hx
 obtain⟨h1,h2,h3,h4,h5,h6⟩:=hr
 have hc':∀ (k:Nat) u,r.cells[k]?=some u→w.cell? ⟨g,off+j*4+k,none⟩=some u:=hc
 obtain⟨tb,al,kd,p,n,c⟩:=r
 dsimp only at h1 h2 h3 h4 h5 h6
 subst h1 h2 h3 h4
 exact⟨g,off,p,c,hq,hg,h5,ExLP.toL _ _ _ h6,hc' 0 _ rfl,hc' 1 _ rfl,hc' 2 _ rfl,hc' 3 _ rfl⟩
set_option maxHeartbeats 8000000 in
theorem sels_any (x:Sel) (ra rb:RawS) (w:World) (hx:TwoS x) (h8:x.items.length≤8∧x.froms.length≤8∧x.where_.length≤8∧x.group.length≤8) (ha:SelM w x ra) (hb:SelM w x rb):Calls Tryz.prog 18 #[.agg ra.cells.toArray,.agg rb.cells.toArray] w fun e w'=>e=.returned (.bool true)∧Below w.heap.size w w':=by
 obtain⟨da,⟨iaq,ian,iac⟩,⟨faq,fan,fac⟩,⟨waq,wan,wac⟩,⟨gaq,gan,gac⟩⟩:=ra
 obtain⟨db,⟨ibq,ibn,ibc⟩,⟨fbq,fbn,fbc⟩,⟨wbq,wbn,wbc⟩,⟨gbq,gbn,gbc⟩⟩:=rb
 obtain rfl:db=da:=hb.d.trans ha.d.symm
 obtain rfl:ibn=ian:=hb.i.1.trans ha.i.1.symm
 obtain rfl:fbn=fan:=hb.f.1.trans ha.f.1.symm
 obtain rfl:wbn=wan:=hb.wh.1.trans ha.wh.1.symm
 obtain rfl:gbn=gan:=hb.g.1.trans ha.g.1.symm
 have A0:=BkA.new w (RawS.cells ⟨db,⟨iaq,ibn,iac⟩,⟨faq,fbn,fac⟩,⟨waq,wbn,wac⟩,⟨gaq,gbn,gac⟩⟩) 38
 have B0:Below w.heap.size w (w.alloc (.cells (RawS.cells ⟨db,⟨iaq,ibn,iac⟩,⟨faq,fbn,fac⟩,⟨waq,wbn,wac⟩,⟨gaq,gbn,gac⟩⟩).toArray 38)):=ext_alloc (ext_refl _) _
 obtain⟨V,hV⟩:∃ V,V=w.alloc (.cells (RawS.cells ⟨db,⟨iaq,ibn,iac⟩,⟨faq,fbn,fac⟩,⟨waq,wbn,wac⟩,⟨gaq,gbn,gac⟩⟩).toArray 38):=⟨_,rfl⟩
 rw[← hV] at A0 B0
 have A1:=BkA.new V (RawS.cells ⟨db,⟨ibq,ibn,ibc⟩,⟨fbq,fbn,fbc⟩,⟨wbq,wbn,wbc⟩,⟨gbq,gbn,gbc⟩⟩) 38
 have B1:Below V.heap.size V (V.alloc (.cells (RawS.cells ⟨db,⟨ibq,ibn,ibc⟩,⟨fbq,fbn,fbc⟩,⟨wbq,wbn,wbc⟩,⟨gbq,gbn,gbc⟩⟩).toArray 38)):=ext_alloc (ext_refl _) _
 obtain⟨W,hW⟩:∃ W,W=V.alloc (.cells (RawS.cells ⟨db,⟨ibq,ibn,ibc⟩,⟨fbq,fbn,fbc⟩,⟨wbq,wbn,wbc⟩,⟨gbq,gbn,gbc⟩⟩).toArray 38):=⟨_,rfl⟩
 rw[← hW] at A1 B1
 have A2:=A0.on B1
 have hz:V.heap.size=w.heap.size+1:=by rw[hV];simp
 rw[hz] at A1
 have HB:=zH (B0.trans (B1.mono B0.size))
 have SA:=zH (ha.on HB.out)
 have SB:=zH (hb.on HB.out)
 have HA:=zH A2
 have HC:=zH A1
 have HX:=zH hx
 have H8:=zH h8
 clear A0 A1 A2 B0 B1 ha hb hx h8
 go_enter Tryz.func18,Tryz.ntmps18
 go_upto_region 1 with fail
 rw[← hV,← hW]
 clear hV hW hz V
 obtain⟨g,hg⟩:∃ g,g=w.heap.size:=⟨_,rfl⟩
 rw[← hg] at HA HC
 have HG:=zH hg
 rw[← hg]
 clear hg
 have lt:=HA.out.lt
 have c0:=HA.out.c 0 _ rfl
 have c1:=HA.out.c 1 _ rfl
 have c2:=HA.out.c 2 _ rfl
 have lt':=HC.out.lt
 have d0:=HC.out.c 0 _ rfl
 have d1:=HC.out.c 1 _ rfl
 have d2:=HC.out.c 2 _ rfl
 have hdd:(db != db)=false:=by cases db <;> rfl
 go_wp2_with fail
 clear c0 c1 c2 d0 d1 d2 hdd lt lt'
 go_loopw [5] (fun va wr=>∃ i:Nat,va=.int .i64 i∧i≤ibn∧Below W.heap.size W wr) (fun va _=>10 - (intOf va).toNat)
 case atStart=>exact⟨0,by go_num,by omega,ext_refl _⟩
 case round =>
  obtain⟨i,rfl,hi,hbr⟩:=hrel
  have BR:=zH hbr
  have hi8:ibn≤8:=by have h1:=SA.out.i.1;have h2:=H8.out.1;dsimp only at h1;omega
  have lt:=(HA.out.on hbr).lt
  have c1:=(HA.out.on hbr).c 1 _ rfl
  have lt':=(HC.out.on hbr).lt
  have d1:=(HC.out.on hbr).c 1 _ rfl
  clear hbr
  by_cases hlt:i<ibn
  ·obtain⟨y,hy⟩:∃ y,x.items[i]?=some y:=⟨_,List.getElem?_eq_getElem (by have h1:=SA.out.i.1;dsimp only at h1;omega)⟩
   obtain⟨ga,oa,op1,v1,rel1,col1,n1,s1,p1,len1,ca1,hqa,lga,hxa,a9,a0,a1,a2,a3,a4,a5,a6,a7,a8⟩:=(SA.out.on BR.out).i.2.2.item hy
   obtain⟨gb,ob,op2,v2,rel2,col2,n2,s2,p2,len2,cb1,hqb,lgb,hxb,b9,b0,b1,b2,b3,b4,b5,b6,b7,b8⟩:=(SB.out.on BR.out).i.2.2.item hy
   dsimp only at hqa hqb
   subst hqa hqb
   have CY:=zH (eqx_any _ y.e (Nat.le_refl _) (HX.out.items y (List.mem_of_getElem? hy)))
   have XA:=zH hxa
   have XB:=zH hxb
   have hw1:wrap64 ((i:Int)+1)=((i+1:Nat):Int):=by unfold wrap64;omega
   obtain⟨ya,hya⟩:∃ ya,ya=y.agg:=⟨_,rfl⟩
   rw[← hya] at a9 b9
   clear hxa hxb hy hya
   go_wp2_with fail
   go_still_tail 12,(by kernel_rfl)
   change wpList _ _ _ _ _ wr.drew
   have hd0:Below wr.heap.size wr wr.drew:=(Below.refl _ _).drew
   have Ha:=ExM.ext hd0 _ _ XA.out
   have Hb:=ExM.ext hd0 _ _ XB.out
   have BD:=BR.out.trans (hd0.mono BR.out.size)
   have K9:=zH (And.intro ((hd0.cell (p:=⟨ga,oa+i*10,none⟩) lga).trans a9) ((hd0.cell (p:=⟨gb,ob+i*10,none⟩) lgb).trans b9))
   have KL:=zH (And.intro (Nat.lt_of_lt_of_le lga hd0.size) (Nat.lt_of_lt_of_le lgb hd0.size))
   clear hd0 a0 a1 a2 a3 a4 a5 a6 a7 a8 a9 b0 b1 b2 b3 b4 b5 b6 b7 b8 b9 c1 d1 lt lt' lga lgb
   generalize wr.drew=U at Ha Hb BD K9 KL ⊢
   have XA2:=zH Ha
   have XB2:=zH Hb
   have BU:=zH BD
   clear Ha Hb BD
   go_wp2_with fail
   refine (CY.out _ _ U XA2.out XB2.out).mono ?_
   rintro e Y ⟨rfl,hbY⟩
   have BY:=zH (BU.out.trans (hbY.mono BU.out.size))
   have a9:=(hbY.cell (p:=⟨ga,oa+i*10,none⟩) KL.out.1).trans K9.out.1
   have b9:=(hbY.cell (p:=⟨gb,ob+i*10,none⟩) KL.out.2).trans K9.out.2
   have lga:=Nat.lt_of_lt_of_le KL.out.1 hbY.size
   have lgb:=Nat.lt_of_lt_of_le KL.out.2 hbY.size
   have lt:=(HA.out.on BY.out).lt
   have c1:=(HA.out.on BY.out).c 1 _ rfl
   have lt':=(HC.out.on BY.out).lt
   have d1:=(HC.out.on BY.out).c 1 _ rfl
   clear hbY K9 KL
   go_upto_region 7 with fail
   have hne:((ya:Int) != ya)=false:=by simp
   go_region
   go_wp2_with fail
   case roundEnd=>exact⟨⟨i+1,by rw[Int.natCast_succ],by omega,(BY.out.drew)⟩,by show 10 - ((i:Int)+1).toNat<10 - (i:Int).toNat;omega⟩
  ·have hi':i=ibn:=by omega
   subst hi'
   go_upto_region 9 with fail
   clear c1 d1 lt lt' hlt
   have hf8:fbn≤8:=by have h1:=SA.out.f.1;have h2:=H8.out.2.1;dsimp only at h1;omega
   obtain⟨W1,hW1⟩:∃ W1,W1=wr:=⟨_,rfl⟩
   rw[← hW1] at BR ⊢
   clear hW1
   go_wp2_with fail
   go_loopw [7] (fun va wr=>∃ k:Nat,va=.int .i64 k∧k≤fbn∧Below W.heap.size W wr) (fun va _=>10 - (intOf va).toNat)
   case atStart=>exact⟨0,by go_num,by omega,BR.out⟩
   case round =>
    obtain⟨k,rfl,hk,hbr⟩:=hrel
    have BS:=zH hbr
    have lt:=(HA.out.on hbr).lt
    have c2:=(HA.out.on hbr).c 2 _ rfl
    have lt':=(HC.out.on hbr).lt
    have d2:=(HC.out.on hbr).c 2 _ rfl
    clear hbr
    by_cases hlt:k<fbn
    ·obtain⟨y,hy⟩:∃ y,x.froms[k]?=some y:=⟨_,List.getElem?_eq_getElem (by have h1:=SA.out.f.1;dsimp only at h1;omega)⟩
     obtain⟨ga,oa,pa,ca,hqa,lga,hca,hxa,a0,a1,a2,a3⟩:=(SA.out.on BS.out).f.2.2.fr hy
     obtain⟨gb,ob,pb,cb,hqb,lgb,hcb,hxb,b0,b1,b2,b3⟩:=(SB.out.on BS.out).f.2.2.fr hy
     dsimp only at hqa hqb
     subst hqa hqb
     have hon8:=(HX.out.froms y (List.mem_of_getElem? hy)).1
     have htw:=(HX.out.froms y (List.mem_of_getElem? hy)).2
     have CY:=zH (fun U (h1:ExL U pa 0 y.on) (h2:ExL U pb 0 y.on)=>exps_any y.on (by omega) (exx htw) pa pb ca cb U h1 h2)
     have XA:=zH hxa
     have XB:=zH hxb
     have hw1:wrap64 ((k:Int)+1)=((k+1:Nat):Int):=by unfold wrap64;omega
     obtain⟨yt,hyt⟩:∃ u,u=bsB y.table:=⟨_,rfl⟩
     obtain⟨yl,hyl⟩:∃ u,u=bsB y.alias:=⟨_,rfl⟩
     obtain⟨yk,hyk⟩:∃ u,u=y.kind:=⟨_,rfl⟩
     obtain⟨yn,hyn⟩:∃ u,u=y.on.length:=⟨_,rfl⟩
     rw[← hyt] at a0 b0
     rw[← hyl] at a1 b1
     rw[← hyk] at a2 b2
     rw[← hyn] at a3 b3 CY
     clear hxa hxb hy hyt hyl hyk hyn htw hon8 hca hcb
     have n1:(yt.toList != yt.toList)=false:=by simp
     have n2:(yl.toList != yl.toList)=false:=by simp
     have n3:(yk != yk)=false:=by simp
     obtain⟨N,hN⟩:∃ N,N=wr.heap.size:=⟨_,rfl⟩
     have F1:=BkA.new wr [.string yt,.string yl,.int .i64 yk,.slice pa yn ca] 40
     have b1':Below wr.heap.size wr (wr.alloc (.cells [.string yt,.string yl,.int .i64 yk,.slice pa yn ca].toArray 40)):=ext_alloc (ext_refl _) _
     obtain⟨U1,hU1⟩:∃ U,U=wr.alloc (.cells [.string yt,.string yl,.int .i64 yk,.slice pa yn ca].toArray 40):=⟨_,rfl⟩
     rw[← hU1] at F1 b1'
     have F2:=BkA.new U1 [.string yt,.string yl,.int .i64 yk,.slice pb yn cb] 40
     have b2':Below U1.heap.size U1 (U1.alloc (.cells [.string yt,.string yl,.int .i64 yk,.slice pb yn cb].toArray 40)):=ext_alloc (ext_refl _) _
     obtain⟨U2,hU2⟩:∃ U,U=U1.alloc (.cells [.string yt,.string yl,.int .i64 yk,.slice pb yn cb].toArray 40):=⟨_,rfl⟩
     rw[← hU2] at F2 b2'
     have F1':=zH (F1.on b2')
     have hzU:U1.heap.size=N+1:=by rw[hU1,hN];simp
     rw[hzU] at F2
     have F2':=zH F2
     rw[← hN] at F1'
     have BU2:=zH (b1'.trans (b2'.mono b1'.size))
     have XA2:=zH (ExL.ext BU2.out _ _ _ XA.out)
     have XB2:=zH (ExL.ext BU2.out _ _ _ XB.out)
     have BW2:=zH (BS.out.trans (BU2.out.mono BS.out.size))
     clear F1 F2 b1' b2' hzU
     have HN:=zH hN
     go_upto_region 14 with fail
     rw[← hU1,← hU2,← hN]
     clear hU1 hU2 hN a0 a1 a2 a3 b0 b1 b2 b3 c2 d2 lt lt' lga lgb
     have lf:=F1'.out.lt
     obtain⟨f0,f1,f2,f3⟩:=F1'.out.c4_ rfl
     have lh:=F2'.out.lt
     obtain⟨h0,h1,h2,h3⟩:=F2'.out.c4_ rfl
     go_wp2_with fail
     refine (CY.out U2 XA2.out XB2.out).mono ?_
     rintro e Y ⟨rfl,hbY⟩
     have BY:=zH (BW2.out.trans (hbY.mono BW2.out.size))
     clear lf f0 f1 f2 f3 lh h0 h1 h2 h3
     have lf:=(F1'.out.on hbY).lt
     have f0:=(F1'.out.on hbY).c 0 _ rfl
     have f1:=(F1'.out.on hbY).c 1 _ rfl
     have f2:=(F1'.out.on hbY).c 2 _ rfl
     have lh:=(F2'.out.on hbY).lt
     have h0:=(F2'.out.on hbY).c 0 _ rfl
     have h1:=(F2'.out.on hbY).c 1 _ rfl
     have h2:=(F2'.out.on hbY).c 2 _ rfl
     clear hbY
     go_wp2_with fail
     case roundEnd=>exact⟨⟨k+1,by rw[Int.natCast_succ],by omega,BY.out⟩,by show 10 - ((k:Int)+1).toNat<10 - (k:Int).toNat;omega⟩
    ·have hk':k=fbn:=by omega
     subst hk'
     have c3:=(HA.out.on BS.out).c 3 _ rfl
     have d3:=(HC.out.on BS.out).c 3 _ rfl
     have CW:=zH (exps_any x.where_ (by have:=H8.out.2.2.1;omega) (exx HX.out.where_) waq wbq wac wbc wr (SA.out.on BS.out).wh.2.2 (SB.out.on BS.out).wh.2.2)
     have e1:=SA.out.wh.1
     have e2:=SA.out.g.1
     dsimp only at e1 e2
     rw[← e1] at CW
     have E2:=zH e2
     clear e1 e2
     go_wp2_with fail
     refine CW.out.mono ?_
     rintro e Y ⟨rfl,hbY⟩
     have BY:=zH (BS.out.trans (hbY.mono BS.out.size))
     have CG:=zH (exps_any x.group (by have:=H8.out.2.2.2;omega) (exx HX.out.group) gaq gbq gac gbc Y (SA.out.on BY.out).g.2.2 (SB.out.on BY.out).g.2.2)
     rw[← E2.out] at CG
     clear c2 d2 c3 d3 lt lt' hbY
     have lt:=(HA.out.on BY.out).lt
     have c4:=(HA.out.on BY.out).c 4 _ rfl
     have lt':=(HC.out.on BY.out).lt
     have d4:=(HC.out.on BY.out).c 4 _ rfl
     go_wp2_with fail
     refine CG.out.mono ?_
     rintro e Y2 ⟨rfl,hbY⟩
     have BY2:=zH (BY.out.trans (hbY.mono BY.out.size))
     clear hbY c4 d4 lt lt'
     go_wp2_with fail
     exact bodyPost_ret (v:=.bool true) (by simp[results,Tryz.results18,go_sem]) rfl ⟨rfl,HB.out.trans (BY2.out.mono HB.out.size)⟩
theorem Tryz.neqKey (c:Int) (d:Bool) (w:World):(binOp .neq 72 (.agg #[.int .i64 c,.bool d]) (.agg #[.int .i64 c,.bool d])).run Tryz.prog w=.ok (.bool false) w:=by
 have hS:Tryz.prog.underlying 72=some (.struct (Tryz.prog.fieldsOf 72)):=by kernel_rfl
 have hp:Tryz.prog.stoodInHeld 72=false:=by kernel_rfl
 rw[run_neq_struct,show (10000:Nat)=9999+1 from rfl,run_equalIn_agg w 9999 72 _ _ hS hp]
 simp only[Program.fieldsOf,Tryz.underlying72]
 go_simp
theorem LsM.ky {w:World} {P:Nat→Prop} {q:Option Addr} {L:List Ky} {j:Nat} {x:Ky} (h:LsM elK w P q L) (hx:L[j]?=some x):∃ g off,q=some ⟨g,off,none⟩∧g<w.heap.size ∧
  w.cell? ⟨g,off+j*2,none⟩=some (.int .i64 x.col)∧w.cell? ⟨g,off+j*2+1,none⟩=some (.bool x.desc):=by
 obtain⟨g,off,r,hq,hg,-,hr,hc⟩:=h j x hx
 obtain⟨h1,h2⟩:=hr
 have hc':∀ (k:Nat) u,r.cells[k]?=some u→w.cell? ⟨g,off+j*2+k,none⟩=some u:=hc
 obtain⟨cl,ds⟩:=r
 dsimp only at h1 h2
 subst h1 h2
 exact⟨g,off,hq,hg,hc' 0 _ rfl,hc' 1 _ rfl⟩
theorem LsM.sl {w:World} {P:Nat→Prop} {q:Option Addr} {L:List Sel} {j:Nat} {x:Sel} (h:LsM elS w P q L) (hx:L[j]?=some x):∃ g off r,q=some ⟨g,off,none⟩∧g<w.heap.size∧SelM w x r ∧
  (w.cell? ⟨g,off+j*5,none⟩=some (.bool r.d)∧w.cell? ⟨g,off+j*5+1,none⟩=some (.slice r.i.q r.i.n r.i.c)∧w.cell? ⟨g,off+j*5+2,none⟩=some (.slice r.f.q r.f.n r.f.c)∧w.cell? ⟨g,off+j*5+3,none⟩=some (.slice r.w.q r.w.n r.w.c)∧w.cell? ⟨g,off+j*5+4,none⟩=some (.slice r.g.q r.g.n r.g.c)):=by
 obtain⟨g,off,r,hq,hg,-,hr,hc⟩:=h j x hx
 have hc':∀ (k:Nat) u,r.cells[k]?=some u→w.cell? ⟨g,off+j*5+k,none⟩=some u:=hc
 exact⟨g,off,r,hq,hg,SelM.of hr,hc' 0 _ rfl,hc' 1 _ rfl,hc' 2 _ rfl,hc' 3 _ rfl,hc' 4 _ rfl⟩
structure QuM (w:World) (x:Qu) (qs:Option Addr) (ns cs:Nat) (qo:Option Addr) (no co:Nat):Prop where
 s:ns=x.sels.length∧ns≤cs∧LsM elS w (fun _=>True) qs x.sels
 o:no=x.order.length∧no≤co∧LsM elK w (fun _=>True) qo x.order
theorem QuV.qm {b:Nat} {w:World} {x:Qu} {v:Value} (h:QuV b w x v):∃ qs ns cs qo no co,v=.agg #[.slice qs ns cs,.slice qo no co]∧QuM w x qs ns cs qo no co:=by
 obtain⟨qs,ns,cs,qo,no,co,e,⟨h1,h2,h3⟩,h4,h5,h6⟩:=h
 exact⟨qs,ns,cs,qo,no,co,e,⟨h1,h2,h3.on elS_ok (Nat.le_refl _) (fun _ _ _=>rfl) (fun _ _ _=>trivial)⟩,h4,h5,h6.on elK_ok (Nat.le_refl _) (fun _ _ _=>rfl) (fun _ _ _=>trivial)⟩
theorem QuM.on {w w':World} {x:Qu} {qs:Option Addr} {ns cs:Nat} {qo:Option Addr} {no co:Nat} (h:QuM w x qs ns cs qo no co) (hb:Below w.heap.size w w'):QuM w' x qs ns cs qo no co :=
 ⟨⟨h.s.1,h.s.2.1,h.s.2.2.on elS_ok hb.size (fun g _ hl=>hb.block g hl) (fun _ _ _=>trivial)⟩,h.o.1,h.o.2.1,h.o.2.2.on elK_ok hb.size (fun g _ hl=>hb.block g hl) (fun _ _ _=>trivial)⟩
structure OkQ (x:Qu):Prop where
 sels:x.sels.length≤8
 order:x.order.length≤8
 each:∀ s∈x.sels,(s.items.length≤8∧s.froms.length≤8∧s.where_.length≤8∧s.group.length≤8)∧TwoS s
theorem okSel.le8 {s:Sel} (h:okSel s):s.items.length≤8∧s.froms.length≤8∧s.where_.length≤8∧s.group.length≤8:=by
 obtain⟨f,c,o,e,-,-,-,h1,h2⟩:=h.froms.parts
 have:=h.where_
 refine⟨h.items.2,?_,by omega,h.group⟩
 rw[e]
 simp
 omega
theorem OkQ.of {s:Bs} {q:Qu} (h:parseS s=.ok q):OkQ q:=by
 obtain⟨h1,-⟩:=parseS_ok h
 exact⟨by have:=h1.sels.2;omega,h1.order,fun s hs=>⟨(h1.each s hs).le8,parseS_two h s hs⟩⟩
set_option maxHeartbeats 8000000 in
theorem queries_any (x:Qu) (hok:OkQ x) (qa:Option Addr) (na ca:Nat) (oa:Option Addr) (ma da:Nat) (qb:Option Addr) (nb cb:Nat) (ob:Option Addr) (mb db:Nat) (w:World) (ha:QuM w x qa na ca oa ma da) (hb:QuM w x qb nb cb ob mb db) :
  Calls Tryz.prog 7 #[.agg #[.slice qa na ca,.slice oa ma da],.agg #[.slice qb nb cb,.slice ob mb db]] w fun e w'=>e=.returned (.bool true)∧Below w.heap.size w w':=by
 obtain rfl:nb=na:=hb.s.1.trans ha.s.1.symm
 obtain rfl:mb=ma:=hb.o.1.trans ha.o.1.symm
 have A0:BkA (w.alloc (.cells #[.slice qa nb ca,.slice oa mb da] 26)) w.heap.size [.slice qa nb ca,.slice oa mb da]:=BkA.new w [.slice qa nb ca,.slice oa mb da] 26
 have B0:Below w.heap.size w (w.alloc (.cells #[.slice qa nb ca,.slice oa mb da] 26)):=ext_alloc (ext_refl _) _
 obtain⟨V,hV⟩:∃ V,V=w.alloc (.cells #[.slice qa nb ca,.slice oa mb da] 26):=⟨_,rfl⟩
 rw[← hV] at A0 B0
 have A1:BkA (V.alloc (.cells #[.slice qb nb cb,.slice ob mb db] 26)) V.heap.size [.slice qb nb cb,.slice ob mb db]:=BkA.new V [.slice qb nb cb,.slice ob mb db] 26
 have B1:Below V.heap.size V (V.alloc (.cells #[.slice qb nb cb,.slice ob mb db] 26)):=ext_alloc (ext_refl _) _
 obtain⟨W,hW⟩:∃ W,W=V.alloc (.cells #[.slice qb nb cb,.slice ob mb db] 26):=⟨_,rfl⟩
 rw[← hW] at A1 B1
 have A2:=A0.on B1
 have hz:V.heap.size=w.heap.size+1:=by rw[hV];simp
 rw[hz] at A1
 have HB:=zH (B0.trans (B1.mono B0.size))
 have SA:=zH (ha.on HB.out)
 have SB:=zH (hb.on HB.out)
 have HA:=zH A2
 have HC:=zH A1
 have HX:=zH hok
 clear A0 A1 A2 B0 B1 ha hb hok
 go_enter Tryz.func7,Tryz.ntmps7
 go_upto_region 1 with fail
 rw[← hV,← hW]
 clear hV hW hz V
 obtain⟨g,hg⟩:∃ g,g=w.heap.size:=⟨_,rfl⟩
 rw[← hg] at HA HC
 have HG:=zH hg
 rw[← hg]
 clear hg
 have lt:=HA.out.lt
 have c0:=HA.out.c 0 _ rfl
 have c1:=HA.out.c 1 _ rfl
 have lt':=HC.out.lt
 have d0:=HC.out.c 0 _ rfl
 have d1:=HC.out.c 1 _ rfl
 go_wp2_with fail
 clear c0 c1 d0 d1 lt lt'
 go_loopw [5] (fun va wr=>∃ i:Nat,va=.int .i64 i∧i≤nb∧Below W.heap.size W wr) (fun va _=>10 - (intOf va).toNat)
 case atStart=>exact⟨0,by go_num,by omega,ext_refl _⟩
 case round =>
  obtain⟨i,rfl,hi,hbr⟩:=hrel
  have BR:=zH hbr
  have hi8:nb≤8:=by have h1:=SA.out.s.1;have h2:=HX.out.sels;omega
  have lt:=(HA.out.on hbr).lt
  have c0:=(HA.out.on hbr).c 0 _ rfl
  have lt':=(HC.out.on hbr).lt
  have d0:=(HC.out.on hbr).c 0 _ rfl
  clear hbr
  by_cases hlt:i<nb
  ·obtain⟨y,hy⟩:∃ y,x.sels[i]?=some y:=⟨_,List.getElem?_eq_getElem (by have h1:=SA.out.s.1;omega)⟩
   obtain⟨ga,oa1,ra,hqa,lga,hxa,a0,a1,a2,a3,a4⟩:=(SA.out.on BR.out).s.2.2.sl hy
   obtain⟨gb,ob1,rb,hqb,lgb,hxb,b0,b1,b2,b3,b4⟩:=(SB.out.on BR.out).s.2.2.sl hy
   subst hqa hqb
   have CY:=zH (fun U (h1:SelM U y ra) (h2:SelM U y rb)=>sels_any y ra rb U (HX.out.each y (List.mem_of_getElem? hy)).2 (HX.out.each y (List.mem_of_getElem? hy)).1 h1 h2)
   have XA:=zH hxa
   have XB:=zH hxb
   have hw1:wrap64 ((i:Int)+1)=((i+1:Nat):Int):=by unfold wrap64;omega
   clear hxa hxb hy
   go_wp2_with fail
   go_still_tail 10,(by kernel_rfl)
   change wpList _ _ _ _ _ wr.drew
   have hd0:Below wr.heap.size wr wr.drew:=(Below.refl _ _).drew
   have Ha:=XA.out.on hd0
   have Hb:=XB.out.on hd0
   have BD:=BR.out.trans (hd0.mono BR.out.size)
   clear hd0 a0 a1 a2 a3 a4 b0 b1 b2 b3 b4 c0 d0 lt lt' lga lgb
   generalize wr.drew=U at Ha Hb BD ⊢
   have XA2:=zH Ha
   have XB2:=zH Hb
   have BU:=zH BD
   clear Ha Hb BD
   go_wp2_with fail
   refine (CY.out U XA2.out XB2.out).mono ?_
   rintro e Y ⟨rfl,hbY⟩
   have BY:=zH (BU.out.trans (hbY.mono BU.out.size))
   clear hbY
   go_wp2_with fail
   case roundEnd=>exact⟨⟨i+1,by rw[Int.natCast_succ],by omega,BY.out⟩,by show 10 - ((i:Int)+1).toNat<10 - (i:Int).toNat;omega⟩
  ·have hi':i=nb:=by omega
   subst hi'
   go_upto_region 9 with fail
   clear c0 d0 lt lt' hlt
   have hf8:mb≤8:=by have h1:=SA.out.o.1;have h2:=HX.out.order;omega
   obtain⟨W1,hW1⟩:∃ W1,W1=wr:=⟨_,rfl⟩
   rw[← hW1] at BR ⊢
   clear hW1
   go_wp2_with fail
   go_loopw [7] (fun va wr=>∃ k:Nat,va=.int .i64 k∧k≤mb∧Below W.heap.size W wr) (fun va _=>10 - (intOf va).toNat)
   case atStart=>exact⟨0,by go_num,by omega,BR.out⟩
   case round =>
    obtain⟨k,rfl,hk,hbr⟩:=hrel
    have BS:=zH hbr
    have lt:=(HA.out.on hbr).lt
    have c1:=(HA.out.on hbr).c 1 _ rfl
    have lt':=(HC.out.on hbr).lt
    have d1:=(HC.out.on hbr).c 1 _ rfl
    clear hbr
    by_cases hlt:k<mb
    ·obtain⟨y,hy⟩:∃ y,x.order[k]?=some y:=⟨_,List.getElem?_eq_getElem (by have h1:=SA.out.o.1;omega)⟩
     obtain⟨ga,oa1,hqa,lga,a0,a1⟩:=(SA.out.on BS.out).o.2.2.ky hy
     obtain⟨gb,ob1,hqb,lgb,b0,b1⟩:=(SB.out.on BS.out).o.2.2.ky hy
     subst hqa hqb
     have hn:=Tryz.neqKey y.col y.desc
     obtain⟨yc,hyc⟩:∃ u,u=y.col:=⟨_,rfl⟩
     obtain⟨yd,hyd⟩:∃ u,u=y.desc:=⟨_,rfl⟩
     rw[← hyc,← hyd] at hn
     rw[← hyc] at a0 b0
     rw[← hyd] at a1 b1
     have hw1:wrap64 ((k:Int)+1)=((k+1:Nat):Int):=by unfold wrap64;omega
     clear hy hyc hyd
     go_upto_region 12 with fail
     go_region
     go_wp2_with fail
     case roundEnd=>exact⟨⟨k+1,by rw[Int.natCast_succ],by omega,BS.out.drew⟩,by show 10 - ((k:Int)+1).toNat<10 - (k:Int).toNat;omega⟩
    ·have hk':k=mb:=by omega
     subst hk'
     go_wp2_with fail
     exact bodyPost_ret (v:=.bool true) (by simp[results,Tryz.results7,go_sem]) rfl ⟨rfl,HB.out.trans (BS.out.mono HB.out.size)⟩
theorem PAns.ok {s:PQ} {q:Qu} {b:Nat} {w':World} {e:Ending} (h:PAns s b w' e) (hs:s=.ok q):∃ qs ns cs qo no co,QuM w' q qs ns cs qo no co∧QuV b w' q (.agg #[.slice qs ns cs,.slice qo no co])∧e=.returned (.tuple #[.agg #[.slice qs ns cs,.slice qo no co],.int .i64 0,.int .i64 0]):=by
 subst hs
 obtain⟨v,hv,rfl⟩:=h
 obtain⟨qs,ns,cs,qo,no,co,rfl,hm⟩:=hv.qm
 exact⟨qs,ns,cs,qo,no,co,hm,hv,rfl⟩
theorem PAns.err {s:PQ} {er a:Nat} {b:Nat} {w':World} {e:Ending} (h:PAns s b w' e) (hs:s=.err er a):e=.returned (.tuple #[.agg #[.slice none 0 0,.slice none 0 0],.int .i64 (er:Int),.int .i64 (a:Int)]):=by
 subst hs
 exact h
theorem exPa:parseS [83,69,76,69,67,84,32,97,32,70,82,79,77,32,116]=.ok ⟨[⟨false,[⟨0,colA⟩],[⟨[116],[116],0,[]⟩],[],[]⟩],[]⟩:=by rfl
theorem exPb:parseS [83,69,76,69,67,84,32,70,82,79,77,32,116]=.err 7 7:=by rfl
theorem exPc:parseS [83,69,76,69,67,84,32,97,32,70,82,79,77]=.err 7 13:=by rfl
set_option maxHeartbeats 8000000 in
theorem ex9_any (w:World) (hG:GV w):Calls Tryz.prog 4 #[] w fun e w'=>e=.returned (.bool true)∧Below w.heap.size w w':=by
 go_enter Tryz.func4,Tryz.ntmps4
 go_wp2_with fail
 refine (parse_any ⟨#[83,69,76,69,67,84,32,97,32,70,82,79,77,32,116]⟩ w hG (by decide)).mono ?_
 rintro e w1 ⟨hA,hb1⟩
 obtain⟨qs,ns,cs,qo,no,co,hm,-,rfl⟩:=hA.ok exPa
 have G1:=hG.on hb1
 have HB1:=zH hb1
 obtain⟨A1,hA1⟩:∃ A,A=w1.alloc (.cells #[.slice qs ns cs,.slice qo no co] 26):=⟨_,rfl⟩
 have K1:BkA A1 w1.heap.size [.slice qs ns cs,.slice qo no co]:=by rw[hA1];exact BkA.new w1 [.slice qs ns cs,.slice qo no co] 26
 have bA1:Below w1.heap.size w1 A1:=by rw[hA1];exact ext_alloc (ext_refl _) _
 have M1:=zH (hm.on bA1)
 have BA1:=zH (hb1.trans (bA1.mono hb1.size))
 have GA1:=G1.on bA1
 have KA1:=zH K1
 have HA1:=zH hA1
 clear hA hm hb1 K1 bA1 hA1
 go_upto_region 2 with fail
 rw[← HA1.out]
 clear HA1
 obtain⟨g1,hg1⟩:∃ g,g=w1.heap.size:=⟨_,rfl⟩
 rw[← hg1] at KA1 ⊢
 clear hg1
 go_wp2_with fail
 refine (parse_any ⟨#[83,69,76,69,67,84,32,70,82,79,77,32,116]⟩ A1 GA1 (by decide)).mono ?_
 rintro e w2 ⟨hA,hb2⟩
 obtain rfl:=hA.err exPb
 have G2:=GA1.on hb2
 have hA2:Below w2.heap.size w2 (w2.alloc (.cells #[.slice none 0 0,.slice none 0 0] 26)):=ext_alloc (ext_refl _) _
 have GA2:=G2.on hA2
 have M2:=zH ((M1.out.on hb2).on hA2)
 have KA2:=zH ((KA1.out.on hb2).on hA2)
 have BA2:=zH ((BA1.out.trans (hb2.mono BA1.out.size)).trans (hA2.mono (Nat.le_trans BA1.out.size hb2.size)))
 clear hA hb2 hA2
 go_upto_region 3 with fail
 generalize w2.alloc (.cells #[.slice none 0 0,.slice none 0 0] 26)=A2 at *
 go_wp2_with fail
 refine (parse_any ⟨#[83,69,76,69,67,84,32,97,32,70,82,79,77]⟩ A2 GA2 (by decide)).mono ?_
 rintro e w3 ⟨hA,hb3⟩
 obtain rfl:=hA.err exPc
 have hA3:Below w3.heap.size w3 (w3.alloc (.cells #[.slice none 0 0,.slice none 0 0] 26)):=ext_alloc (ext_refl _) _
 have M3:=zH ((M2.out.on hb3).on hA3)
 have KA3:=zH ((KA2.out.on hb3).on hA3)
 have BA3:=zH ((BA2.out.trans (hb3.mono BA2.out.size)).trans (hA3.mono (Nat.le_trans BA2.out.size hb3.size)))
 clear hA hb3 hA3 G1 G2 GA1 GA2 hG
 go_upto_region 4 with fail
 generalize w3.alloc (.cells #[.slice none 0 0,.slice none 0 0] 26)=A3 at *
 obtain⟨rfl,-,hS⟩:=M3.out.s
 obtain⟨gs,os,ra,rfl,lgs,hSM,s0,s1,s2,s3,s4⟩:=hS.sl (j:=0) rfl
 obtain⟨rd,⟨iq,inn,ic⟩,⟨fq,fn,fc⟩,⟨wq,wn,wc⟩,⟨gq,gn,gc⟩⟩:=ra
 obtain⟨-,⟨h1,-,hI⟩,⟨h2,-,hF⟩,-,-⟩:=hSM
 dsimp only at h1 h2 hI hF s0 s1 s2 s3 s4
 subst h1 h2
 obtain⟨gi,oi,op1,v1,rel1,col1,n1,t1,p1,len1,ca1,rfl,lgi,hxe,i9,i0,-,-,-,-,-,-,-,-⟩:=hI.item (j:=0) rfl
 obtain⟨gf,of_,pf,cf,rfl,lgf,-,-,f0,f1,f2,f3⟩:=hF.fr (j:=0) rfl
 have hop:op1=19:=by
  have hx:=hxe
  unfold colA at hx
  rw[ExM.iff] at hx
  obtain⟨-,q,c,e,-,-⟩:=hx
  simp only[exCells,List.cons.injEq,Value.int.injEq,true_and] at e
  exact e.1
 subst hop
 have lt:=KA3.out.lt
 have c0:=KA3.out.c 0 _ rfl
 simp only[Nat.zero_mul,Nat.add_zero] at s0 s1 s2 s3 s4 i9 i0 f0 f1 f2 f3
 clear hxe hS hI hF s0 s3 s4 i9 f0 f2 f3
 go_wp2_with fail
 exact bodyPost_ret (v:=.bool true) (by simp[results,Tryz.results4,go_sem]) rfl ⟨rfl,BA3.out⟩
def PQ.q:PQ→Qu
 | .err _ _=>⟨[],[]⟩
 | .ok q=>q
def PQ.e:PQ→Nat
 | .err e _=>e
 | .ok _=>0
def PQ.at_:PQ→Nat
 | .err _ a=>a
 | .ok _=>0
theorem QuM.nil (w:World):QuM w ⟨[],[]⟩ none 0 0 none 0 0:=⟨⟨rfl,Nat.le_refl _,LsM.nil⟩,rfl,Nat.le_refl _,LsM.nil⟩
theorem parse_res (s:ByteArray) (r:PQ) (hr:parseS s.data.toList=r) (w:World) (hG:GV w) (hs:s.size≤9223372036854775807):Calls Tryz.prog 5 #[.string s] w fun e w' =>
  (∃ qs ns cs qo no co,QuM w' r.q qs ns cs qo no co∧e=.returned (.tuple #[.agg #[.slice qs ns cs,.slice qo no co],.int .i64 (r.e:Int),.int .i64 (r.at_:Int)]))∧Below w.heap.size w w' :=
 (parse_any s w hG hs).mono fun e w' h=>by
  refine⟨?_,h.2⟩
  subst hr
  cases hp:parseS s.data.toList with
  | err er a=>exact⟨_,_,_,_,_,_,QuM.nil w',h.1.err hp⟩
  | ok q =>
   obtain⟨qs,ns,cs,qo,no,co,hm,-,e⟩:=h.1.ok hp
   exact⟨qs,ns,cs,qo,no,co,hm,e⟩
theorem OkQ.all (s:Bs):OkQ (parseS s).q:=by
 cases h:parseS s with
 | err er a=>exact⟨by show (0:Nat)≤8;omega,by show (0:Nat)≤8;omega,fun x hx=>by cases hx⟩
 | ok q=>exact OkQ.of h
end Go.Proofs.YtapbglhjamddbaaGreatDoor
