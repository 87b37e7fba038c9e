/- A part of the proof. -/
import Derived.Test.YtklgoajgchfmeaaDoorKn
import Derived.Test.YtklgoajgchfmeaaDoorKg
import Derived.Test.YtklgoajgchfmeaaDoorKb
import Derived.Test.YtklgoajgchfmeaaDoorCards
import Derived.Test.YtklgoajgchfmeaaDoorTie
import Derived.Lay
import Derived.LaidMore
import Derived.OpenShut
import Derived.SevenTiedAt
import Derived.Stop.Joined
import Derived.SizedLaws
import Derived.Test.YtklgoajgchfmeaaDoorHd
namespace Go.Proofs.YtklgoajgchfmeaaDoor
open Go.RowKit Go.Maps Go.ChangeShapes Go.Deep Go.Shelf
set_option maxRecDepth 100000
abbrev cdX (o c a b:Int):Ex:=.mk (9+o) zeroVal 0 0 0 ⟨#[]⟩ [rfX a c,rfX b 2]
theorem cd_facts:∀ o<6,∀ c<6,rightE (cdX (o:Nat) (c:Nat) 0 1)=true∧inSet 3 (cdX (o:Nat) (c:Nat) 0 1)=true∧rightE (cdX (o:Nat) (c:Nat) 1 3)=true∧inSet 10 (cdX (o:Nat) (c:Nat) 1 3)=true:=by decide +kernel
theorem cd_rank (set:Nat) (o c a b:Int) (ho:0≤o) (x y:Nat) (hx:rkN set a.toNat=x) (hy:rkN set b.toNat=y):(cdX o c a b).rank set=cdX o c x y:=by
 rw[Ex.rank,rankL,rankL,rankL,Ex.rank,Ex.rank,rankL,if_neg (by omega),if_pos rfl,if_pos rfl,hx,hy]
theorem ranks_same (one two other o c:Int) (ho:0≤o∧o<6) (hc:0≤c∧c<6) :
  ofE [one,two] 2 [cdX o c 0 1] 3=ofE [other,one,other,two] 4 [cdX o c 1 3] 10∧(ofE [one,two] 2 [cdX o c 0 1] 3).2=0∧(ofE [one,two] 2 [] 3).2=0∧(ofE [one,two] 2 [cdX o c 0 1] 3).1.length≠(ofE [one,two] 2 [] 3).1.length:=by
 obtain⟨o',rfl⟩:∃ n:Nat,o=n:=⟨o.toNat,by omega⟩
 obtain⟨c',rfl⟩:∃ n:Nat,c=n:=⟨c.toNat,by omega⟩
 obtain⟨h1,h2,h3,h4⟩:=cd_facts o' (by omega) c' (by omega)
 have r1:(cdX o' c' 0 1).rank 3=cdX o' c' 0 1:=cd_rank 3 o' c' 0 1 (by omega) 0 1 (by decide) (by decide)
 have r2:(cdX o' c' 1 3).rank 10=cdX o' c' 0 1:=cd_rank 10 o' c' 1 3 (by omega) 0 1 (by decide) (by decide)
 have k1:rankedE 3 [cdX o' c' 0 1]=[cdX o' c' 0 1]:=by
  unfold rankedE
  rw[List.filter_cons,if_pos h2,List.filter_nil,List.map_cons,List.map_nil]
  exact congrArg (fun z=>[z]) r1
 have k2:rankedE 10 [cdX o' c' 1 3]=[cdX o' c' 0 1]:=by
  unfold rankedE
  rw[List.filter_cons,if_pos h4,List.filter_nil,List.map_cons,List.map_nil]
  exact congrArg (fun z=>[z]) r2
 have p1:partE [one,two] 2 [cdX o' c' 0 1] 3=true:=by simp[partE,h1]
 have p2:partE [other,one,other,two] 4 [cdX o' c' 1 3] 10=true:=by simp[partE,h3]
 have p3:partE [one,two] 2 [] 3=true:=by simp[partE]
 have t1:tabsT 3 0 [one,two]=Lib.itoa one++[32]++(Lib.itoa two++[32]):=by
  rw[tabsT,tabsT,tabsT,if_pos (by decide),if_pos (by decide),List.append_nil]
 have t2:tabsT 10 0 [other,one,other,two]=Lib.itoa one++[32]++(Lib.itoa two++[32]):=by
  rw[tabsT,tabsT,tabsT,tabsT,tabsT,if_neg (by decide),if_pos (by decide),if_neg (by decide),if_pos (by decide),List.append_nil];rfl
 unfold ofE
 rw[if_pos p1,if_pos p2,if_pos p3,k1,k2]
 refine⟨?_,rfl,rfl,?_⟩
 ·show (83 :: (tabsT 3 0 [one,two]++_),(0:Int))=(83 :: (tabsT 10 0 [other,one,other,two]++_),0)
  rw[t1,t2]
 ·show (83 :: (tabsT 3 0 [one,two]++textsT (sortE ([cdX o' c' 0 1].map Ex.norm)))).length≠(83 :: (tabsT 3 0 [one,two]++textsT (sortE (([]:List Ex).map Ex.norm)))).length
  show (83 :: (tabsT 3 0 [one,two]++((cdX o' c' 0 1).norm.print++(59 :: [])))).length≠(83 :: (tabsT 3 0 [one,two]++[])).length
  simp
theorem KB.ints {W:World} {g:Nat} {l:List Int} (h:KB W g (l.map (Value.int .i64))):IntsA W 0 W.heap.size (some ⟨g,0,none⟩) l:=fun i hi=>⟨g,0,rfl,Nat.zero_le _,h.lt,fun j x hx=>by
 show World.cell? _ ⟨g,0+j*1,none⟩=some (.int .i64 x)
 rw[Nat.zero_add,Nat.mul_one]
 exact h.c j _ (by rw[List.getElem?_map,hx];rfl)⟩
theorem KB.one {W:World} {g:Nat} {x:Ex} {cs:List Value} (h:KB W g cs) (hx:ExM W x cs):ExL W (some ⟨g,0,none⟩) 0 [x] :=
 ExLP.toL _ _ _ (ExLP.one (P:=fun _=>True) (ExMP.on (Nat.le_refl _) (fun _ _ _=>rfl) (fun _ _ _=>trivial) _ _ (ExM.toP _ _ hx)) h.lt trivial h.c)
theorem KB.cond {W:World} {g:Nat} {a b:Int} {o c:Int} (h:KB W g (exCells 2 zeroVal a c 0 ⟨#[]⟩ none 0 0++exCells 2 zeroVal b 2 0 ⟨#[]⟩ none 0 0)):ExM W (cdX o c a b) (exCells (9+o) zeroVal 0 0 0 ⟨#[]⟩ (some ⟨g,0,none⟩) 2 2) :=
 ExM.iff.2 ⟨⟨by decide,by decide,by decide⟩,_,2,rfl,Nat.le_refl _,ExLP.toL _ _ _ (ExLP.two (P:=fun _=>True) (rfX_in W _ a c) (rfX_in W _ b 2) h.lt trivial h.c)⟩
theorem dof_cells {W:World} {gt:Nat} {qc:Option Addr} {nc:Nat} {tabs:List Int} {L:List Ex} (core set:Int) (nt:Nat) (hG:GE W) (ht:IntsA W 0 W.heap.size (some ⟨gt,0,none⟩) tabs) (hc:ExL W qc 0 L) (hn:nt=tabs.length) (hl:nc=L.length) (h1:tabs.length≤1048576) (h2:L.length≤1048576) (hs:inR set=true) (hci:inR core=true) (hti:∀ t∈tabs,inR t=true) :
  Calls Tryd.prog 18 #[.agg #[.slice (some ⟨gt,0,none⟩) nt nt,.int .i64 core,.slice none 0 0,.slice none 0 0,.slice qc nc nc,.slice none 0 0,.slice none 0 0,.bool false,.slice none 0 0,.slice none 0 0,.bool false],.int .i64 set] W fun e w'=>e=.returned (.tuple #[.string (bsB (ofE tabs core L set).1),.int .i64 (ofE tabs core L set).2])∧Below W.heap.size W w':=by
 obtain⟨r,hr⟩:∃ r:RawK,r=⟨⟨some ⟨gt,0,none⟩,nt,nt⟩,core,⟨none,0,0⟩,⟨none,0,0⟩,⟨qc,nc,nc⟩,⟨none,0,0⟩,⟨none,0,0⟩,false,⟨none,0,0⟩,⟨none,0,0⟩,false⟩:=⟨_,rfl⟩
 have BI:BlkIn W r tabs L:=by
  subst hr
  exact⟨hn,⟨Nat.le_refl _,by show nt≤_;omega⟩,ht,hl,⟨Nat.le_refl _,by show nc≤_;omega⟩,hc,by omega⟩
 have hc:r.core=core:=by rw[hr]
 have h:=dof_any r tabs L set W BI hG hs (by rw[hc];exact hci) h2 hti
 rw[hc] at h
 rw[hr] at h
 exact h
theorem neg_idx {x:Int} (h:inR x=true) (hx:x<0):∃ o:Int,(0≤o∧o<6)∧wrap64 (9+(wrap64 (-wrap64 (x+1))).tmod 6)=9+o∧(wrap64 (-wrap64 (x+1))).tmod 6=o:=by
 have h1:=inR_iff.1 h
 have e1:wrap64 (x+1)=x+1:=by unfold wrap64;omega
 have e2:wrap64 (-(x+1))=-(x+1):=by unfold wrap64;omega
 have e3:(-(x+1)).tmod 6=(-(x+1)) % 6:=Int.tmod_eq_emod_of_nonneg (by omega)
 rw[e1,e2,e3]
 exact⟨_,⟨by omega,by omega⟩,by unfold wrap64;omega,rfl⟩
theorem pos_idx {x:Int} (hx:0≤x):∃ o:Int,(0≤o∧o<6)∧x % 6=o:=⟨_,⟨by omega,by omega⟩,rfl⟩
theorem bs_len {l m:Bs} (h:l.length≠m.length):¬ (bsB l).toList=(bsB m).toList:=fun e=>h (by
 rw[ByteArray.toList_eq,ByteArray.toList_eq] at e
 have e:l=m:=e
 rw[e])
theorem new_block (W:World) (cs:List Value) (T:TypeId) (g:Nat) (hg:g=W.heap.size):∃ W',W.alloc (.cells cs.toArray T)=W'∧KB W' g cs∧Below W.heap.size W W'∧g+1=W'.heap.size:=by
 subst hg
 exact⟨_,rfl,KB.new W cs T,ext_alloc (ext_refl _) _,(World.size_alloc _ _).symm⟩
theorem calls_world {f:Nat} {a:Array Value} {W W':World} {Q:Ending→World→Prop} (h:Calls Tryd.prog f a W' Q) (e:W=W'):Calls Tryd.prog f a W Q:=e ▸ h
set_option maxHeartbeats 8000000 in
theorem signRanks_any (one two other col op:Int) (h1:inR one=true) (h2:inR two=true) (h3:inR other=true) (h4:inR col=true) (h5:inR op=true) (w:World) (hG:GE w) :
  Calls Tryd.prog 7 #[.int .i64 one,.int .i64 two,.int .i64 other,.int .i64 col,.int .i64 op] w fun e w'=>e=.returned (.bool true)∧Below w.heap.size w w':=by
 have HG:=zH hG
 go_enter Tryd.func7,Tryd.ntmps7
 go_wp2_with fail
 refine (examples12_any w HG.out).mono ?_
 rintro e Y ⟨rfl,hb1⟩
 have HB1:=zH hb1
 clear hb1 hG
 go_wp2_with fail
 all_goals
  first
   | obtain⟨o,ho,he1,he2⟩:=neg_idx h5 (by assumption)
    rw[he1]
   | obtain⟨o,ho,he2⟩:=pos_idx (x:=op) (by assumption)
    rw[he2]
  first
   | obtain⟨c,hc,-,he3⟩:=neg_idx h4 (by assumption)
    rw[he3]
   | obtain⟨c,hc,he3⟩:=pos_idx (x:=col) (by assumption)
    rw[he3]
  clear he2 he3
  obtain⟨W1,e1,K1,b1,s1⟩:=new_block Y (exCells 2 zeroVal 0 c 0 ⟨#[]⟩ none 0 0++exCells 2 zeroVal 1 2 0 ⟨#[]⟩ none 0 0) 26 _ rfl
  obtain⟨W2,e2,K2,b2,s2⟩:=new_block W1 (exCells (9+o) zeroVal 0 0 0 ⟨#[]⟩ (some ⟨Y.heap.size,0,none⟩) 2 2) 26 _ s1
  obtain⟨W3,e3,K3,b3,s3⟩:=new_block W2 (exCells 2 zeroVal 1 c 0 ⟨#[]⟩ none 0 0++exCells 2 zeroVal 3 2 0 ⟨#[]⟩ none 0 0) 26 _ s2
  obtain⟨W4,e4,K4,b4,s4⟩:=new_block W3 (exCells (9+o) zeroVal 0 0 0 ⟨#[]⟩ (some ⟨Y.heap.size+1+1,0,none⟩) 2 2) 26 _ s3
  obtain⟨W5,e5,K5,b5,s5⟩:=new_block W4 ([one,two].map (Value.int .i64)) 3 _ s4
  obtain⟨W6,e6,K6,b6,s6⟩:=new_block W5 (exCells (9+o) zeroVal 0 0 0 ⟨#[]⟩ (some ⟨Y.heap.size,0,none⟩) 2 2) 26 _ s5
  refine calls_world (W':=W6) ?_ (by rw[← e6,← e5,← e4,← e3,← e2,← e1];rfl)
  have B6:Below Y.heap.size Y W6:=b1.trans ((b2.trans ((b3.trans ((b4.trans ((b5.trans (b6.mono b5.size)).mono b4.size)).mono b3.size)).mono b2.size)).mono b1.size)
  clear e1 e2 e3 e4 e5 e6
  have K1:=K1.on (b2.trans ((b3.trans ((b4.trans ((b5.trans (b6.mono b5.size)).mono b4.size)).mono b3.size)).mono b2.size))
  have K2:=K2.on (b3.trans ((b4.trans ((b5.trans (b6.mono b5.size)).mono b4.size)).mono b3.size))
  have K3:=K3.on (b4.trans ((b5.trans (b6.mono b5.size)).mono b4.size))
  have K4:=K4.on (b5.trans (b6.mono b5.size))
  have K5:=K5.on b6
  clear b1 b2 b3 b4 b5 b6 s1 s2 s3 s4 s5
  obtain⟨q1,q2,q3,q4⟩:=ranks_same one two other o c ho hc
  have P1:=zH q1
  have P2:=zH q2
  have P3:=zH q3
  have P4:=zH q4
  clear q1 q2 q3 q4
  have hti:∀ t∈[one,two],inR t=true:=fun t ht=>by
   rcases List.mem_cons.1 ht with rfl | ht
   ·exact h1
   ·rw[List.mem_singleton.1 ht];exact h2
  have HY:=zH (HB1.out.trans (B6.mono HB1.out.size))
  refine Calls.mono (dof_cells (tabs:=[one,two]) (L:=[cdX o c 0 1]) 2 3 2 (HG.out.on HY.out) K5.ints (K6.one K1.cond) rfl rfl (by simp) (by simp) (by decide) (by decide) hti) ?_
  rintro e Z ⟨rfl,hz⟩
  rw[P2.out]
  have K2:=K2.on hz
  have K3:=K3.on hz
  have K4:=K4.on hz
  have HZ:=zH (HY.out.trans (hz.mono HY.out.size))
  have ltD:=K4.lt
  obtain⟨d0,d1,d2,d3,d4,d5,d6,d7,d8⟩:=K4.c9_ rfl
  clear hz B6 K5 K6 K1 HY K2 K4
  go_wp2_with fail
  clear d0 d1 d2 d3 d4 d5 d6 d7 d8 ltD
  obtain⟨V1,e1,J1,b1,s1⟩:=new_block Z ([other,one,other,two].map (Value.int .i64)) 3 _ rfl
  obtain⟨V2,e2,J2,b2,s2⟩:=new_block V1 (exCells (9+o) zeroVal 0 0 0 ⟨#[]⟩ (some ⟨Y.heap.size+1+1,0,none⟩) 2 2) 26 _ s1
  refine calls_world (W':=V2) ?_ (by rw[← e2,← e1];rfl)
  have B2:=b1.trans (b2.mono b1.size)
  have K3:=K3.on B2
  have J1:=J1.on b2
  clear e1 e2 s1 s2
  have htj:∀ t∈[other,one,other,two],inR t=true:=fun t ht=>by
   rcases List.mem_cons.1 ht with rfl | ht
   ·exact h3
   ·rcases List.mem_cons.1 ht with rfl | ht
    ·exact h1
    ·rcases List.mem_cons.1 ht with rfl | ht
     ·exact h3
     ·rw[List.mem_singleton.1 ht];exact h2
  have HV:=zH (HZ.out.trans (B2.mono HZ.out.size))
  refine Calls.mono (dof_cells (tabs:=[other,one,other,two]) (L:=[cdX o c 1 3]) 4 10 4 (HG.out.on HV.out) J1.ints (J2.one K3.cond) rfl rfl (by simp) (by simp) (by decide) (by decide) htj) ?_
  rintro e U ⟨rfl,hu⟩
  rw[← P1.out,P2.out]
  have HU:=zH (HV.out.trans (hu.mono HV.out.size))
  clear hu HV B2 b1 b2 J1 J2 K3 htj HZ
  go_wp2_with fail
  obtain⟨V1,e1,J1,b1,s1⟩:=new_block U ([one,two].map (Value.int .i64)) 3 _ rfl
  refine calls_world (W':=V1) ?_ (by rw[← e1];rfl)
  have HV:=zH (HU.out.trans (b1.mono HU.out.size))
  refine Calls.mono (dof_cells (qc:=none) (nc:=0) (tabs:=[one,two]) (L:=[]) 2 3 2 (HG.out.on HV.out) J1.ints (by rw[ExL];trivial) rfl rfl (by simp) (by simp) (by decide) (by decide) hti) ?_
  rintro e R ⟨rfl,hr⟩
  rw[P3.out]
  have HR:=zH (HV.out.trans (hr.mono HV.out.size))
  have hne:=bs_len P4.out
  obtain⟨SA,hsa⟩:∃ a,a=bsB (ofE [one,two] 2 [cdX o c 0 1] 3).1:=⟨_,rfl⟩
  obtain⟨SB,hsb⟩:∃ a,a=bsB (ofE [one,two] 2 [] 3).1:=⟨_,rfl⟩
  rw[← hsa,← hsb] at hne
  rw[← hsa,← hsb]
  clear hsa hsb hr J1 b1 e1 s1 HV HU P1 P2 P3 P4 hti
  go_wp2_with fail
  refine bodyPost_ret (v:=.bool true) (by simp[results,Tryd.results7,go_sem,hne]) rfl ⟨rfl,HR.out⟩
open Go.ChangeShapes Go.WideShapes Go.ChangeAt Go.RowKit Go.Joins
set_option maxRecDepth 100000
noncomputable abbrev laidVars:List (String × DataW Unit):=Rows.signTellsRow.laid
theorem wit_shaped (os:Os) (args:Array Value):((World.laidAll Tryd.prog os laidVars).forCall (fun _ _=>0) ⟨#[],args,[]⟩).Shaped Tryd.prog:=World.shaped_of_ZipB (by kernel_rfl) (by kernel_rfl)
theorem wit_met (os:Os) (args:Array Value):laidMetH Tryd.prog laidVars ((World.laidAll Tryd.prog os laidVars).forCall (fun _ _=>0) ⟨#[],args,[]⟩).memory:=by
 rw[MakeChecks.laidMetH_plain _ _ _ (by kernel_rfl)]
 exact laidMet_laidAll _ (by kernel_rfl) (by kernel_rfl)
theorem var_lt {W:World} {n:String} {d:DataW Unit} {g:Nat} (h:Lib.VarReads Tryd.prog W n d) (hg:Tryd.prog.globalNamed n=some g):g<W.heap.size:=by
 obtain⟨g',t,cs,fuel,p,hg',ht,hv,hd⟩:=h
 obtain rfl:=Option.some.inj (hg.symm.trans hg')
 unfold World.var? at hv
 simp only[hg,Option.bind_some] at hv
 rcases Nat.lt_or_ge g W.heap.size with h | h
 ·exact h
 ·simp[Array.getElem?_eq_none h] at hv
theorem GE.of_laid {W:World} (hL:laidMetH Tryd.prog laidVars W):GE W:=by
 rw[MakeChecks.laidMetH_plain _ _ _ (by kernel_rfl)] at hL
 have h1:Lib.VarReads Tryd.prog W "math/bits.deBruijn64tab" Rows.laid_math_bits_deBruijn64tab:=Lib.laidMet.reads hL (List.mem_of_getElem? (i:=1) rfl)
 have hlt:=var_lt h1 (g:=3) (by kernel_rfl)
 exact GE.of_reads (by omega) (Lib.laidMet.reads hL (List.mem_of_getElem? (i:=3) rfl)) (Lib.laidMet.reads hL (List.mem_of_getElem? (i:=2) rfl))
open Go.ChangeShapes Go.WideShapes Go.ChangeAt Go.RowKit Go.Joins Go.Deep
set_option maxRecDepth 100000
instance:Inhabited Ex:=⟨.mk 0 zeroVal 0 0 0 ⟨#[]⟩ []⟩
section
variable {H:Type} {enc:TypeId × Value→H}
end
open Go.ChangeShapes Go.WideShapes Go.ChangeAt Go.RowKit Go.Joins Go.Deep
set_option maxRecDepth 100000
section
variable {H:Type} {enc:TypeId × Value→H}
end
end Go.Proofs.YtklgoajgchfmeaaDoor
