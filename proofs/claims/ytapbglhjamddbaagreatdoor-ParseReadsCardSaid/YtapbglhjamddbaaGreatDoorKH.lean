/- A part of the proof. -/
import Derived.Test.YtapbglhjamddbaaGreatDoorKG
import Derived.Test.YtapbglhjamddbaaGreatDoorHd
namespace Go.Proofs.YtapbglhjamddbaaGreatDoor
open Go.RowKit
set_option maxRecDepth 100000
structure RS (w:World) (W:World) (kd n a:Int) (st:ByteArray):Prop where
 below:Below w.heap.size w W
 lt:w.heap.size+1<W.heap.size
 c0:W.cell? ⟨w.heap.size+1,0,none⟩=some (.int .i64 kd)
 c1:W.cell? ⟨w.heap.size+1,1,none⟩=some (.int .i64 n)
 c2:W.cell? ⟨w.heap.size+1,2,none⟩=some (.int .i64 a)
 c3:W.cell? ⟨w.heap.size+1,3,none⟩=some (.string st)
 z0:W.cell? ⟨w.heap.size,0,none⟩=some (.int .i64 0)
 z1:W.cell? ⟨w.heap.size,1,none⟩=some (.int .i64 0)
 z2:W.cell? ⟨w.heap.size,2,none⟩=some (.int .i64 0)
 z3:W.cell? ⟨w.heap.size,3,none⟩=some (.string ⟨#[]⟩)
 f8:∀ o,W.frozen? ⟨w.heap.size+1,o,none⟩=false
 f4:∀ o,W.frozen? ⟨w.heap.size,o,none⟩=false
theorem RS.ext {w W W':World} {kd n a:Int} {st:ByteArray} (h:RS w W kd n a st) (hb:Below W.heap.size W W'):RS w W' kd n a st :=
 have l1:w.heap.size<W.heap.size:=Nat.lt_of_succ_lt h.lt
 ⟨h.below.trans (hb.mono (Nat.le_of_lt l1)),Nat.lt_of_lt_of_le h.lt hb.size,(hb.cell (p:=⟨_,_,none⟩) h.lt).trans h.c0,(hb.cell (p:=⟨_,_,none⟩) h.lt).trans h.c1,(hb.cell (p:=⟨_,_,none⟩) h.lt).trans h.c2,(hb.cell (p:=⟨_,_,none⟩) h.lt).trans h.c3,
  (hb.cell (p:=⟨_,_,none⟩) l1).trans h.z0,(hb.cell (p:=⟨_,_,none⟩) l1).trans h.z1,(hb.cell (p:=⟨_,_,none⟩) l1).trans h.z2,(hb.cell (p:=⟨_,_,none⟩) l1).trans h.z3,
  fun o=>(hb.frozen (p:=⟨_,o,none⟩) h.lt).trans (h.f8 o),fun o=>(hb.frozen (p:=⟨_,o,none⟩) l1).trans (h.f4 o)⟩
theorem RS.setS {w W:World} {kd n a:Int} {st:ByteArray} (h:RS w W kd n a st) (st':ByteArray):RS w (W.setCell ⟨w.heap.size+1,3,none⟩ (.string st')) kd n a st' :=
 ⟨h.below.setCell (Nat.le_succ _) _,by rw[World.size_setCell];exact h.lt,
  (World.cell?_setCell_other _ _ _ _ (fun e=>by cases e)).trans h.c0,(World.cell?_setCell_other _ _ _ _ (fun e=>by cases e)).trans h.c1,(World.cell?_setCell_other _ _ _ _ (fun e=>by cases e)).trans h.c2,World.cell?_setCell_same _ _ _ h.c3,
  (World.cell?_setCell_other _ _ _ _ (fun e=>by simp at e)).trans h.z0,(World.cell?_setCell_other _ _ _ _ (fun e=>by simp at e)).trans h.z1,(World.cell?_setCell_other _ _ _ _ (fun e=>by simp at e)).trans h.z2,(World.cell?_setCell_other _ _ _ _ (fun e=>by simp at e)).trans h.z3,
  fun o=>by rw[World.frozen?_setCell];exact h.f8 o,fun o=>by rw[World.frozen?_setCell];exact h.f4 o⟩
theorem RS.setK {w W:World} {kd n a:Int} {st:ByteArray} (h:RS w W kd n a st) (kd':Int):RS w (W.setCell ⟨w.heap.size+1,0,none⟩ (.int .i64 kd')) kd' n a st :=
 ⟨h.below.setCell (Nat.le_succ _) _,by rw[World.size_setCell];exact h.lt,
  World.cell?_setCell_same _ _ _ h.c0,(World.cell?_setCell_other _ _ _ _ (fun e=>by cases e)).trans h.c1,(World.cell?_setCell_other _ _ _ _ (fun e=>by cases e)).trans h.c2,(World.cell?_setCell_other _ _ _ _ (fun e=>by cases e)).trans h.c3,
  (World.cell?_setCell_other _ _ _ _ (fun e=>by simp at e)).trans h.z0,(World.cell?_setCell_other _ _ _ _ (fun e=>by simp at e)).trans h.z1,(World.cell?_setCell_other _ _ _ _ (fun e=>by simp at e)).trans h.z2,(World.cell?_setCell_other _ _ _ _ (fun e=>by simp at e)).trans h.z3,
  fun o=>by rw[World.frozen?_setCell];exact h.f8 o,fun o=>by rw[World.frozen?_setCell];exact h.f4 o⟩
theorem RS.new (w:World) (kd n a:Int) (st:ByteArray) (T:TypeId):RS w ((w.alloc (.cells #[.int .i64 0,.int .i64 0,.int .i64 0,.string ⟨#[]⟩] T)).alloc (.cells #[.int .i64 kd,.int .i64 n,.int .i64 a,.string st] T)) kd n a st :=
 ⟨ext_alloc (ext_alloc (ext_refl _) _) _,by simp,by simp[go_sem],by simp[go_sem],by simp[go_sem],by simp[go_sem],by simp[go_sem],by simp[go_sem],by simp[go_sem],by simp[go_sem],fun o=>by simp[go_sem],fun o=>by simp[go_sem]⟩
def twos:List Bs:=[[60,61],[62,61],[60,62]]
def pickT (t2:Option Bs):Nat→Bs
 | 0=>[]
 | i+1=>if t2=twos[i]?∧i<3 then twos.getD i [] else pickT t2 i
def pickS (b:UInt8):Nat→Bs
 | 0=>[]
 | i+1=>if singles[i]?=some b then [b] else pickS b i
theorem pickS_all (b:UInt8):pickS b 11=if b∈singles then [b] else []:=all_bytes (P:=fun b=>pickS b 11=if b∈singles then [b] else []) (by decide) b
theorem RS.back {w W:World} {kd n a:Int} {st:ByteArray} (h:RS w W kd n a st) (kd' n' a':Int) (st':ByteArray) (X:World) (hX:X=((((W.setCell ⟨w.heap.size,0,none⟩ (.int .i64 kd')).setCell ⟨w.heap.size,1,none⟩ (.int .i64 n')).setCell ⟨w.heap.size,2,none⟩ (.int .i64 a')).setCell ⟨w.heap.size,3,none⟩ (.string st'))) :
  X.cell? ⟨w.heap.size,0,none⟩=some (.int .i64 kd')∧X.cell? ⟨w.heap.size,1,none⟩=some (.int .i64 n')∧X.cell? ⟨w.heap.size,2,none⟩=some (.int .i64 a')∧X.cell? ⟨w.heap.size,3,none⟩=some (.string st')∧Below w.heap.size w X:=by
 have z0:=h.z0
 have z1:=h.z1
 have z2:=h.z2
 have z3:=h.z3
 have hb:=h.below
 subst hX
 clear h
 exact⟨by simp[go_sem,z0],by simp[go_sem,z1],by simp[go_sem,z2],by simp[go_sem,z3],(((hb.setCell (Nat.le_refl _) _).setCell (Nat.le_refl _) _).setCell (Nat.le_refl _) _).setCell (Nat.le_refl _) _⟩
theorem pickT_some (b c:UInt8):pickT (some [b,c]) 3=if b=60∧c=62 then [60,62] else if b=62∧c=61 then [62,61] else if b=60∧c=61 then [60,61] else []:=by
 simp[pickT,twos]
theorem sign_link (b:UInt8) (r:Bs):signOf (b :: r)=if pickT (match r[0]? with | some c=>some [b,c] | none=>none) 3=[] then (if b∈singles then some [b] else none) else some (pickT (match r[0]? with | some c=>some [b,c] | none=>none) 3):=by
 cases r with
 | nil=>rw[signOf_one];rfl
 | cons c r =>
  rw[signOf_two,List.getElem?_cons_zero]
  simp only[pickT_some]
  by_cases h1:b=60∧c=62
  ·obtain⟨rfl,rfl⟩:=h1;rfl
  ·by_cases h2:b=62∧c=61
   ·obtain⟨rfl,rfl⟩:=h2;rfl
   ·by_cases h3:b=60∧c=61
    ·obtain⟨rfl,rfl⟩:=h3;rfl
    ·simp only[if_neg h1,if_neg h2,if_neg h3,reduceIte]
theorem pickT_len (t2:Option Bs):(pickT t2 3).length=0∨(pickT t2 3).length=2:=by
 rw[pickT]
 split
 ·exact .inr rfl
 ·rw[pickT]
  split
  ·exact .inr rfl
  ·rw[pickT]
   split
   ·exact .inr rfl
   ·exact .inl rfl
theorem sign_at (l:Bs) (k:Nat) (b:UInt8) (hb:l[k]?=some b) (t2:Option Bs) (ht:t2=(match l[k+1]? with | some c=>some [b,c] | none=>none)):signOf (l.drop k)=if pickT t2 3=[] then (if b∈singles then some [b] else none) else some (pickT t2 3):=by
 obtain⟨hl,rfl⟩:=List.getElem?_eq_some_iff.1 hb
 rw[List.drop_eq_getElem_cons hl,sign_link,List.getElem?_drop,Nat.add_zero,← ht]
set_option maxHeartbeats 4000000 in
theorem rone_sign (s:ByteArray) (k:Nat) (w:World) (hk:k<s.size) (hs:s.size≤2000) (b:UInt8) (hb:s.data.toList[k]?=some b) (hl:isLetter b=false) (hd:isDigit b=false) (h39:b≠39) (h36:b≠36) :
  Calls Tryz.prog 27 #[.string s,.int .i64 (k:Int)] w fun e w'=>OneOut (oneSign (s.data.toList.drop k)) k e∧Below w.heap.size w w':=by
 obtain⟨p4,p5⟩:=byt_data hb
 have eb:=(byt_at s k p4).trans p5
 clear p5
 have m39:((b.toNat:Int) == 39)=false:=by
  rw[beq_eq_false_iff_ne]
  intro h
  exact h39 (UInt8.toNat_inj.1 (by have:b.toNat=39:=(by omega);rw[this];rfl))
 have m36:((b.toNat:Int) == 36)=false:=by
  rw[beq_eq_false_iff_ne]
  intro h
  exact h36 (UInt8.toNat_inj.1 (by have:b.toNat=36:=(by omega);rw[this];rfl))
 clear h39 h36
 have HB:=zH hb
 clear hb
 go_enter Tryz.func27,Tryz.ntmps27
 go_wp2_with fail
 refine (rletter_any b _ rfl _).mono ?_
 rintro e w1 ⟨rfl,rfl⟩
 rw[hl]
 go_wp2_with fail
 refine (rdigit_any b _ rfl _).mono ?_
 rintro e w1 ⟨rfl,rfl⟩
 rw[hd]
 go_wp2_with fail
 have R0:=RS.new w 6 0 k ⟨#[]⟩ 82
 obtain⟨W,hW⟩:∃ W,W=((w.alloc (.cells #[.int .i64 0,.int .i64 0,.int .i64 0,.string ⟨#[]⟩] 82)).alloc (.cells #[.int .i64 6,.int .i64 0,.int .i64 (k:Int),.string ⟨#[]⟩] 82)):=⟨_,rfl⟩
 have hWs:W.heap.size=w.heap.size+1+1:=by rw[hW];simp
 rw[← hW] at R0
 rw[← hW]
 clear hW
 obtain⟨X,hX⟩:∃ X,X=W.alloc (.cells #[.string ⟨#[60,61]⟩,.string ⟨#[62,61]⟩,.string ⟨#[60,62]⟩] 9):=⟨_,rfl⟩
 have R1:RS w X 6 0 k ⟨#[]⟩:=by rw[hX];exact R0.ext (ext_alloc (ext_refl _) _)
 have hL:∀ j tw,twos[j]?=some tw→X.cell? ⟨w.heap.size+1+1,j,none⟩=some (.string (bsB tw)):=by
  intro j tw hj
  rw[hX,← hWs,Lib.cell_of_heap (heap_alloc_new W _)]
  match j,hj with
  | 0,hj=>cases hj;rfl
  | 1,hj=>cases hj;rfl
  | 2,hj=>cases hj;rfl
  | j+3,hj=>cases hj
 rw[← hX]
 clear hX R0 hWs
 obtain⟨g8,hg8⟩:∃ g8,g8=w.heap.size+1:=⟨_,rfl⟩
 obtain⟨g5,hg5⟩:∃ g5,g5=w.heap.size+1+1:=⟨_,rfl⟩
 obtain⟨t2,ht2⟩:∃ t2:Option Bs,t2=(match s.data.toList[k+1]? with | some c=>some [b,c] | none=>none):=⟨_,rfl⟩
 rw[← hg5] at hL
 rw[← hg5,← hg8]
 have HT2:=zH ht2
 have HG8:=zH hg8
 have HG5:=zH hg5
 have H0:=zH (And.intro R1 hL)
 clear R1 hL ht2 hg8 hg5
 go_loopw [21] (fun vi wr=>∃ i:Nat,vi=.int .i64 i∧i≤3∧Hid (RS w wr 6 0 k (bsB (pickT t2 i))∧∀ j tw,twos[j]?=some tw→wr.cell? ⟨g5,j,none⟩=some (.string (bsB tw)))) (fun vi _=>3 - (intOf vi).toNat)
 case atStart=>exact⟨0,rfl,by omega,H0.out⟩
 case round =>
  clear H0
  obtain⟨i,rfl,hi,HH⟩:=hrel
  obtain⟨V,hV⟩:∃ V,V=wr:=⟨_,rfl⟩
  rw[← hV] at HH
  rw[← hV]
  clear hV
  by_cases hlt:i<3
  ·obtain⟨tw,htw⟩:∃ tw,twos[i]?=some tw:=⟨_,List.getElem?_eq_getElem hlt⟩
   have cl:=HH.out.2 i tw htw
   have c3:=HH.out.1.c3
   have f3:=HH.out.1.f8 3
   rw[← HG8.out] at c3 f3
   obtain⟨L,hLL⟩:∃ L,L=bsB tw:=⟨_,rfl⟩
   rw[← hLL] at cl
   by_cases hend:k+1<s.size
   ·obtain⟨c,hc⟩:∃ c,s.data.toList[k+1]?=some c:=⟨_,List.getElem?_eq_getElem (by rw[show s.data.toList.length=s.size from Array.length_toList];exact hend)⟩
    have ht2:t2=some [b,c]:=by rw[HT2.out,hc]
    have z1:(k:Int)+1<(s.size:Int):=by omega
    have hext:s.extract k (k+2)=bsB [b,c]:=by
     have e1:=bsB_at s k b HB.out
     have e2:=bsB_at s (k+1) c hc
     have e3:s.extract k (k+2)=s.extract k (k+1)++s.extract (k+1) (k+1+1):=by
      rw[ByteArray.extract_append_extract]
      congr 1 <;> omega
     rw[e3,e1,e2,bsB_add]
     rfl
    by_cases heq:[b,c]=tw
    ·have m1:((s.extract k (k+2)).toList == L.toList)=true:=by rw[hext,hLL,heq];simp
     have hnext:bsB (pickT t2 (i+1))=L:=by rw[pickT,if_pos ⟨by rw[ht2,heq,htw],hlt⟩,hLL,List.getD,htw];rfl
     have HN:=zH hnext
     have HTW:=zH htw
     clear hnext hext hLL heq ht2 hc htw
     go_wp2_with fail
     go_big_quiet (fail)
     go_wp2_with fail
     go_roundw
     case rel =>
      refine⟨i+1,by go_num,hlt,?_,fun j tw h=>?_⟩
      ·rw[HG8.out,HN.out];exact (HH.out.1.ext (ext_drewN (ext_refl _) nq)).setS L
      ·exact (World.cell?_setCell_other _ _ _ _ (fun e=>by have h1:=congrArg Addr.block e;have h2:=HG8.out;have h3:=HG5.out;simp at h1;omega)).trans (HH.out.2 j tw h)
     case measure=>simp[intOf] <;> omega
    ·have m1:((s.extract k (k+2)).toList == L.toList)=false:=by rw[hext,hLL,beq_eq_false_iff_ne];intro h;exact heq (by simpa [ByteArray.toList_eq] using h)
     have hnext:pickT t2 (i+1)=pickT t2 i:=by
      rw[pickT,if_neg]
      intro h
      rw[ht2,htw] at h
      exact heq (by simpa using h.1)
     have HN:=zH hnext
     clear hnext hext hLL heq ht2 hc htw
     go_wp2_with fail
     go_big_quiet (fail)
     go_wp2_with fail
     go_roundw
     case rel=>exact⟨i+1,by go_num,hlt,by rw[HN.out];exact HH.out.1.ext (ext_drewN (ext_refl _) nq),fun j tw h=>HH.out.2 j tw h⟩
     case measure=>simp[intOf] <;> omega
   ·have ht2:t2=none:=by rw[HT2.out,List.getElem?_eq_none (by rw[show s.data.toList.length=s.size from Array.length_toList];omega)]
    have hnext:pickT t2 (i+1)=pickT t2 i:=by
     rw[pickT,if_neg]
     intro h
     rw[ht2,htw] at h
     cases h.1
    have HN:=zH hnext
    have z1:¬ (k:Int)+1<(s.size:Int):=by omega
    clear hnext hLL ht2 htw
    go_wp2_with fail
    have z2:decide ((k:Int)+1<(s.size:Int))=false:=decide_eq_false (by omega)
    go_big_quiet (fail)
    go_wp2_with fail
    go_roundw
    case rel=>exact⟨i+1,by go_num,hlt,by rw[HN.out];exact HH.out.1.ext (ext_drewN (ext_refl _) nq),fun j tw h=>HH.out.2 j tw h⟩
    case measure=>simp[intOf] <;> omega
  ·obtain rfl:i=3:=by omega
   obtain⟨T,hT⟩:∃ T,T=pickT t2 3:=⟨_,rfl⟩
   have r:=HH.out.1
   rw[← hT] at r
   have R:=zH r
   have HT:=zH hT
   obtain⟨c0,c1,c2,c3⟩:=And.intro r.c0 (And.intro r.c1 (And.intro r.c2 r.c3))
   obtain⟨z0,z1,z2,z3⟩:=And.intro r.z0 (And.intro r.z1 (And.intro r.z2 r.z3))
   have f4:=r.f4
   have f8:=r.f8
   clear r hT HH
   rw[← HG8.out] at c0 c1 c2 c3 f8
   obtain⟨ST,hST⟩:∃ ST,ST=bsB T:=⟨_,rfl⟩
   rw[← hST] at c3
   by_cases hTe:T=[]
   ·have m1:ST.toList.isEmpty=true:=by rw[hST,hTe,ByteArray.toList_eq];rfl
    have HTE:=zH hTe
    clear hTe hST
    have RV:=R
    clear R f4 f8
    go_wp2_with fail
    obtain⟨C,hC⟩:∃ C,C=ByteArray.mk #[60,62,61,43,45,42,47,40,41,44,46]:=⟨_,rfl⟩
    have hCl:C.data.toList=singles:=by rw[hC];rfl
    have hCs:C.size=11:=by rw[hC];rfl
    rw[← hC]
    clear hC c0 c1 c2 c3 z0 z1 z2 z3 m1
    go_loopw [23] (fun vi wr=>∃ i:Nat,vi=.int .i64 i∧i≤11∧Hid (RS w wr 6 0 k (bsB (pickS b i)))) (fun vi _=>11 - (intOf vi).toNat)
    case atStart=>exact⟨0,rfl,by omega,by have:=RV.out;rw[HTE.out] at this;exact this⟩
    case round =>
     clear RV
     obtain⟨i,rfl,hi,HH⟩:=hrel
     obtain⟨V,hV⟩:∃ V,V=wr:=⟨_,rfl⟩
     rw[← hV] at HH
     rw[← hV]
     clear hV
     by_cases hlt:i<11
     ·have c3:=HH.out.c3
      have f3:=HH.out.f8 3
      rw[← HG8.out] at c3 f3
      obtain⟨c,hc⟩:∃ c,C.data.toList[i]?=some c:=⟨_,List.getElem?_eq_getElem (by rw[hCl];exact hlt)⟩
      obtain⟨q4,q5⟩:=byt_data hc
      have ec:=(byt_at C i q4).trans q5
      have hext:=bsB_at C i c hc
      by_cases hcb:c=b
      ·have m2:((c.toNat:Int) == (b.toNat:Int))=true:=by rw[hcb];simp
       have hnext:bsB (pickS b (i+1))=C.extract i (i+1):=by rw[pickS,if_pos (by rw[← hCl,hc,hcb]),hext,hcb]
       have HN:=zH hnext
       clear hnext hext hc hCl hcb q5
       go_wp2_with fail
       go_roundw
       case rel=>exact⟨i+1,by go_num,hlt,by rw[HG8.out,HN.out];exact HH.out.setS _⟩
       case measure=>simp[intOf] <;> omega
      ·have m2:((c.toNat:Int) == (b.toNat:Int))=false:=by
        rw[beq_eq_false_iff_ne]
        intro h
        exact hcb (UInt8.toNat_inj.1 (by omega))
       have hnext:pickS b (i+1)=pickS b i:=by rw[pickS,if_neg (by rw[← hCl,hc];simpa using hcb)]
       have HN:=zH hnext
       clear hnext hext hc hCl hcb q5
       go_wp2_with fail
       go_roundw
       case rel=>exact⟨i+1,by go_num,hlt,by rw[HN.out];exact HH.out⟩
       case measure=>simp[intOf] <;> omega
     ·obtain rfl:i=11:=by omega
      have r:=HH.out
      have HSL:=zH (sign_at _ k b HB.out t2 HT2.out)
      rw[pickS_all] at r
      by_cases hbs:b∈singles
      ·rw[if_pos hbs] at r
       have HR:=zH r
       have he:oneSign (s.data.toList.drop k)=.tok 6 0 [b] 1:=by unfold oneSign;rw[HSL.out,← HT.out,if_pos HTE.out,if_pos hbs];rfl
       obtain⟨S1,hS1⟩:∃ S1,S1=bsB [b]:=⟨_,rfl⟩
       rw[← hS1] at r HR
       have m5:S1.toList.isEmpty=false:=by rw[hS1,ByteArray.toList_eq];rfl
       have HS1:=zH hS1
       have HE:=zH he
       obtain⟨c0,c1,c2,c3⟩:=And.intro r.c0 (And.intro r.c1 (And.intro r.c2 r.c3))
       obtain⟨z0,z1,z2,z3⟩:=And.intro r.z0 (And.intro r.z1 (And.intro r.z2 r.z3))
       have f4:=r.f4
       have f8:=r.f8
       clear r hCl HH hbs he hS1
       rw[← HG8.out] at c0 c1 c2 c3 f8
       go_wp2_with fail
       obtain⟨X,hX⟩:∃ X,X=((((V.setCell ⟨w.heap.size,0,none⟩ (.int .i64 6)).setCell ⟨w.heap.size,1,none⟩ (.int .i64 0)).setCell ⟨w.heap.size,2,none⟩ (.int .i64 (k:Int))).setCell ⟨w.heap.size,3,none⟩ (.string S1)):=⟨_,rfl⟩
       obtain⟨x0,x1,x2,x3,hbX⟩:=HR.out.back 6 0 k S1 X hX
       rw[← hX]
       clear hX
       refine bodyPost_ret (v:=.tuple #[.agg #[.int .i64 6,.int .i64 0,.int .i64 (k:Int),.string S1],.int .i64 ((k:Int)+1),.int .i64 0,.int .i64 0]) (by simp[results,Tryz.results27,go_sem,x0,x1,x2,x3]) rfl ⟨?_,hbX⟩
       rw[HE.out,HS1.out]
       rfl
      ·rw[if_neg hbs] at r
       have HR:=zH r
       have he:oneSign (s.data.toList.drop k)=.err 6 0:=by unfold oneSign;rw[HSL.out,← HT.out,if_pos HTE.out,if_neg hbs]
       obtain⟨S1,hS1⟩:∃ S1,S1=bsB []:=⟨_,rfl⟩
       rw[← hS1] at r HR
       have m5:S1.toList.isEmpty=true:=by rw[hS1,ByteArray.toList_eq];rfl
       have HE:=zH he
       obtain⟨c0,c1,c2,c3⟩:=And.intro r.c0 (And.intro r.c1 (And.intro r.c2 r.c3))
       obtain⟨z0,z1,z2,z3⟩:=And.intro r.z0 (And.intro r.z1 (And.intro r.z2 r.z3))
       have f4:=r.f4
       have f8:=r.f8
       clear r hCl HH hbs he hS1
       rw[← HG8.out] at c0 c1 c2 c3 f8
       go_wp2_with fail
       obtain⟨X,hX⟩:∃ X,X=((((V.setCell ⟨w.heap.size,0,none⟩ (.int .i64 6)).setCell ⟨w.heap.size,1,none⟩ (.int .i64 0)).setCell ⟨w.heap.size,2,none⟩ (.int .i64 (k:Int))).setCell ⟨w.heap.size,3,none⟩ (.string S1)):=⟨_,rfl⟩
       obtain⟨x0,x1,x2,x3,hbX⟩:=HR.out.back 6 0 k S1 X hX
       rw[← hX]
       clear hX
       refine bodyPost_ret (v:=.tuple #[.agg #[.int .i64 6,.int .i64 0,.int .i64 (k:Int),.string S1],.int .i64 0,.int .i64 6,.int .i64 (k:Int)]) (by simp[results,Tryz.results27,go_sem,x0,x1,x2,x3]) rfl ⟨?_,hbX⟩
       rw[HE.out]
       exact⟨_,_,_,_,rfl⟩
   ·have m1:ST.toList.isEmpty=false:=by
     rw[hST,ByteArray.toList_eq]
     cases T with
     | nil=>exact absurd rfl hTe
     | cons=>rfl
    have HTE:=zH hTe
    have HST:=zH hST
    clear hTe hST
    have HSL:=zH (sign_at _ k b HB.out t2 HT2.out)
    go_wp2_with fail
    obtain⟨X,hX⟩:∃ X,X=((((V.setCell ⟨w.heap.size,0,none⟩ (.int .i64 6)).setCell ⟨w.heap.size,1,none⟩ (.int .i64 0)).setCell ⟨w.heap.size,2,none⟩ (.int .i64 (k:Int))).setCell ⟨w.heap.size,3,none⟩ (.string ST)):=⟨_,rfl⟩
    have r:=R.out
    rw[← HST.out] at r
    obtain⟨x0,x1,x2,x3,hbX⟩:=r.back 6 0 k ST X hX
    rw[← hX]
    clear hX
    refine bodyPost_ret (v:=.tuple #[.agg #[.int .i64 6,.int .i64 0,.int .i64 (k:Int),.string ST],.int .i64 ((k:Int)+1+1),.int .i64 0,.int .i64 0]) (by simp[results,Tryz.results27,go_sem,x0,x1,x2,x3]) rfl ⟨?_,hbX⟩
    have hl2:(pickT t2 3).length=2:=by
     rcases pickT_len t2 with h | h
     ·exact absurd (by rw[HT.out];exact List.length_eq_zero_iff.1 h) HTE.out
     ·exact h
    have he:oneSign (s.data.toList.drop k)=.tok 6 0 T 2:=by unfold oneSign;rw[HSL.out,← HT.out,if_neg HTE.out];simp only;rw[HT.out,hl2]
    rw[he,HST.out]
    rfl
open Go.RowKit
set_option maxRecDepth 100000
theorem words_lex:wordsL.map (fun x=>x.data.toList)=lexWords:=rfl
def pickK (st:Bs):Nat→Int
 | 0=>2
 | i+1=>if lexWords[i]?=some st then 1 else pickK st i
theorem pickK_all (st:Bs):∀ n,pickK st n=if st∈lexWords.take n then 1 else 2
 | 0=>by simp[pickK]
 | n+1=>by
  rw[pickK,pickK_all st n,List.take_add_one]
  by_cases h:lexWords[n]?=some st
  ·rw[if_pos h,h,if_pos (by simp)]
  ·rw[if_neg h]
   have:st∈lexWords.take n++lexWords[n]?.toList↔st∈lexWords.take n:=by
    rw[List.mem_append]
    refine⟨fun hh=>?_,.inl⟩
    rcases hh with hh | hh
    ·exact hh
    ·cases he:lexWords[n]? with
     | none=>rw[he] at hh;cases hh
     | some x=>rw[he] at hh h;simp at hh;exact absurd (by rw[hh]) h
   simp only[this]
set_option maxHeartbeats 4000000 in
theorem rone_word (s:ByteArray) (k:Nat) (w:World) (hk:k<s.size) (hs:s.size≤2000) (b:UInt8) (hb:s.data.toList[k]?=some b) (hl:isLetter b=true) :
  Calls Tryz.prog 27 #[.string s,.int .i64 (k:Int)] w fun e w'=>OneOut (oneWord (s.data.toList.drop k)) k e∧Below w.heap.size w w':=by
 have hsl:s.data.toList.length=s.size:=Array.length_toList
 obtain⟨p4,p5⟩:=byt_data hb
 have eb:=(byt_at s k p4).trans p5
 clear p5
 obtain⟨D,hD⟩:∃ D,D=(s.data.toList.drop k).takeWhile isWordB:=⟨_,rfl⟩
 have hD1:1≤D.length:=by
  obtain⟨hl2,rfl⟩:=List.getElem?_eq_some_iff.1 hb
  rw[hD,List.drop_eq_getElem_cons hl2]
  exact takeWhile_pos (letter_word hl)
 have hD2:k+D.length≤s.size:=by
  have:=takeWhile_le isWordB (s.data.toList.drop k)
  rw[← hD,List.length_drop,hsl] at this
  omega
 have HD:=zH hD
 clear hb hD
 go_enter Tryz.func27,Tryz.ntmps27
 go_wp2_with fail
 refine (rletter_any b _ rfl _).mono ?_
 rintro e w9 ⟨rfl,hw9⟩
 rw[hw9]
 clear hw9
 rw[hl]
 go_wp2_with fail
 have R0:=zH (RS.new w 0 0 k ⟨#[]⟩ 82)
 obtain⟨W,hW⟩:∃ W,W=((w.alloc (.cells #[.int .i64 0,.int .i64 0,.int .i64 0,.string ⟨#[]⟩] 82)).alloc (.cells #[.int .i64 0,.int .i64 0,.int .i64 (k:Int),.string ⟨#[]⟩] 82)):=⟨_,rfl⟩
 rw[← hW] at R0
 rw[← hW]
 clear hW
 go_loopw [10] (fun vi wr=>∃ j:Nat,vi=.int .i64 j∧k+1≤j∧j≤k+D.length∧wr=W) (fun vi _=>s.size - (intOf vi).toNat)
 case atStart=>exact⟨k+1,by go_num,by omega,by omega,rfl⟩
 case round =>
  obtain⟨j,rfl,hj1,hj2,hWr⟩:=hrel
  rw[hWr]
  clear hWr
  by_cases hlt:j<s.size
  ·obtain⟨c,hc⟩:∃ c,s.data.toList[j]?=some c:=⟨_,List.getElem?_eq_getElem (by rw[hsl];exact hlt)⟩
   obtain⟨q4,q5⟩:=byt_data hc
   have ec:=(byt_at s j q4).trans q5
   have hc2:(s.data.toList.drop k)[j - k]?=some c:=by rw[List.getElem?_drop,show k+(j - k)=j by omega,hc]
   have hiff:=takeWhile_at (p:=isWordB) (i:=j - k) (by rw[← HD.out];omega) hc2
   rw[← HD.out] at hiff
   have HI:=zH hiff
   clear hiff hc2 hc q5
   go_wp2_with fail
   refine (rletter_any c _ rfl _).mono ?_
   rintro e w9 ⟨rfl,hw9⟩
   rw[hw9]
   clear hw9
   cases hcl:isLetter c with
   | true =>
    have hjn:j+1≤k+D.length:=by have:=HI.out.2 (letter_word hcl);omega
    clear HI
    go_wp2_with fail
    go_roundw
    case rel=>exact⟨j+1,by go_num,by omega,hjn,trivial⟩
    case measure=>simp[intOf] <;> omega
   | false =>
    go_wp2_with fail
    refine (rdigit_any c _ rfl _).mono ?_
    rintro e w9 ⟨rfl,hw9⟩
    rw[hw9]
    clear hw9
    cases hcd:isDigit c with
    | true =>
     have hjn:j+1≤k+D.length:=by have:=HI.out.2 (by unfold isWordB;rw[hcd];simp);omega
     clear HI
     go_wp2_with fail
     go_roundw
     case rel=>exact⟨j+1,by go_num,by omega,hjn,trivial⟩
     case measure=>simp[intOf] <;> omega
    | false =>
     by_cases h95:c=95
     ·have hjn:j+1≤k+D.length:=by have:=HI.out.2 (by unfold isWordB;rw[h95];simp);omega
      have m1:((c.toNat:Int) == 95)=true:=by rw[h95];rfl
      clear HI h95
      go_wp2_with fail
      go_roundw
      case rel=>exact⟨j+1,by go_num,by omega,hjn,trivial⟩
      case measure=>simp[intOf] <;> omega
     ·have hjk:j=k+D.length:=by
       have h:¬ j - k<D.length:=fun h=>by
        have h2:=HI.out.1 h
        unfold isWordB at h2
        rw[hcl,hcd] at h2
        simp at h2
        exact h95 h2
       omega
      have m1:((c.toNat:Int) == 95)=false:=by
       rw[beq_eq_false_iff_ne]
       intro h
       exact h95 (UInt8.toNat_inj.1 (by have:c.toNat=95:=(by omega);rw[this];rfl))
      clear HI h95
      have HJ:=zH hjk
      clear hjk
      obtain⟨c0,f8⟩:=And.intro R0.out.c0 (R0.out.f8 0)
      go_wp2_with fail
      obtain⟨Y,hY⟩:∃ Y,Y=W.setCell ⟨w.heap.size+1,0,none⟩ (.int .i64 2):=⟨_,rfl⟩
      have RY:=zH (show RS w Y 2 0 k ⟨#[]⟩ by rw[hY];exact R0.out.setK 2)
      try rw[← hY]
      clear hY c0 f8
      have hex:(s.extract k j).data.toList=D:=by
       rw[ByteArray.data_extract,Array.toList_extract,List.extract_eq_take_drop,HJ.out,Nat.add_sub_cancel_left,HD.out]
       exact (List.prefix_iff_eq_take.1 (List.takeWhile_prefix isWordB)).symm
      have hexs:(s.extract k j).size≤2000:=by rw[← show (s.extract k j).data.toList.length=(s.extract k j).size from Array.length_toList,hex];omega
      have HEX:=zH hex
      clear hex
      refine (rsmall_any _ _ hexs).mono ?_
      rintro e Z ⟨rfl,hbZ⟩
      rw[HEX.out]
      obtain⟨ST,hST⟩:∃ ST,ST=bsB (D.map lower):=⟨_,rfl⟩
      have hSTs:ST.size=D.length:=by rw[hST,bsB_len,List.length_map]
      rw[← hST]
      have HST:=zH hST
      have RZ:=zH (RY.out.ext hbZ)
      obtain⟨c3,f8⟩:=And.intro RZ.out.c3 (RZ.out.f8 3)
      clear hST hexs hbZ
      go_wp2_with fail
      obtain⟨U,hU⟩:∃ U,U=Z.setCell ⟨w.heap.size+1,3,none⟩ (.string ST):=⟨_,rfl⟩
      have RU:=zH (show RS w U 2 0 k ST by rw[hU];exact RZ.out.setS ST)
      try rw[← hU]
      clear hU c3 f8
      refine (rwords_any U).mono ?_
      rintro e T ⟨g,rfl,hStr,hbT⟩
      have RT:=zH (RU.out.ext hbT)
      have hgw:∀ i x,wordsL[i]?=some x→T.cell? ⟨g,i,none⟩=some (.string x)∧w.heap.size+1<g:=fun i x hx=>by
       obtain⟨g',off,hg,h1,_,hc⟩:=hStr i (List.getElem?_eq_some_iff.1 hx).1
       obtain⟨rfl,rfl⟩:g=g'∧0=off:=by simpa using hg
       have h2:=hc i x hx
       unfold strC at h2
       rw[Nat.zero_add,Nat.mul_one] at h2
       exact⟨h2,Nat.lt_of_lt_of_le RU.out.lt h1⟩
      have H0:=zH hgw
      clear hgw hStr hbT
      go_wp2_with fail
      go_loopw [12] (fun vi wr=>∃ i:Nat,vi=.int .i64 i∧i≤25∧Hid (RS w wr (pickK (D.map lower) i) 0 k ST∧∀ i x,wordsL[i]?=some x→wr.cell? ⟨g,i,none⟩=some (.string x)∧w.heap.size+1<g)) (fun vi _=>25 - (intOf vi).toNat)
      case atStart=>exact⟨0,rfl,by omega,RT.out,H0.out⟩
      case round =>
       clear H0
       obtain⟨i,rfl,hi,HH⟩:=hrel
       obtain⟨V,hV⟩:∃ V,V=wr:=⟨_,rfl⟩
       rw[← hV] at HH
       rw[← hV]
       clear hV
       by_cases hlt2:i<25
       ·obtain⟨x,hx⟩:∃ x,wordsL[i]?=some x:=⟨_,List.getElem?_eq_getElem hlt2⟩
        obtain⟨cx,hgg⟩:=HH.out.2 i x hx
        have hxl:lexWords[i]?=some x.data.toList:=by rw[← words_lex,List.getElem?_map,hx];rfl
        obtain⟨c3,f8⟩:=And.intro HH.out.1.c3 (HH.out.1.f8 0)
        have c0:=HH.out.1.c0
        by_cases heq:x.data.toList=D.map lower
        ·have m1:(x.toList == ST.toList)=true:=by rw[HST.out,ByteArray.toList_eq,ByteArray.toList_eq,heq];simp
         have hnext:pickK (D.map lower) (i+1)=1:=by rw[pickK,if_pos (by rw[hxl,heq])]
         have HN:=zH hnext
         clear hnext heq hxl hx
         go_wp2_with fail
         go_big_quiet (fail)
         go_wp2_with fail
         go_roundw
         case rel =>
          refine⟨i+1,by go_num,hlt2,?_,fun i x h=>⟨?_,hgg⟩⟩
          ·rw[HN.out];exact (HH.out.1.ext (ext_drewN (ext_refl _) nq)).setK 1
          ·exact (World.cell?_setCell_other _ _ _ _ (fun e=>by have h1:=congrArg Addr.block e;simp at h1;omega)).trans (HH.out.2 i x h).1
         case measure=>simp[intOf] <;> omega
        ·have m1:(x.toList == ST.toList)=false:=by rw[HST.out,ByteArray.toList_eq,ByteArray.toList_eq,beq_eq_false_iff_ne];exact heq
         have hnext:pickK (D.map lower) (i+1)=pickK (D.map lower) i:=by rw[pickK,if_neg (by rw[hxl];simpa using heq)]
         have HN:=zH hnext
         clear hnext heq hxl hx c0
         go_wp2_with fail
         go_big_quiet (fail)
         go_wp2_with fail
         go_roundw
         case rel=>exact⟨i+1,by go_num,hlt2,by rw[HN.out];exact HH.out.1.ext (ext_drewN (ext_refl _) nq),fun i x h=>HH.out.2 i x h⟩
         case measure=>simp[intOf] <;> omega
       ·obtain rfl:i=25:=by omega
        have r:=HH.out.1
        rw[pickK_all,show lexWords.take 25=lexWords from rfl] at r
        obtain⟨kd,hkd⟩:∃ kd:Nat,kd=if D.map lower∈lexWords then 1 else 2:=⟨_,rfl⟩
        rw[show (if D.map lower∈lexWords then (1:Int) else 2)=(kd:Int) by rw[hkd];split <;> rfl] at r
        have HR:=zH r
        have HK:=zH hkd
        obtain⟨c0,c1,c2,c3⟩:=And.intro r.c0 (And.intro r.c1 (And.intro r.c2 r.c3))
        obtain⟨z0,z1,z2,z3⟩:=And.intro r.z0 (And.intro r.z1 (And.intro r.z2 r.z3))
        have f4:=r.f4
        have f8:=r.f8
        clear r HH hkd RT RU RZ RY R0
        by_cases h20:20<D.length
        ·have he:oneWord (s.data.toList.drop k)=.err 5 0:=by unfold oneWord;rw[← HD.out,if_pos h20]
         have HE:=zH he
         have q1:(ST.size:Int) > 20:=by omega
         clear he
         go_wp2_with fail
         obtain⟨X,hX⟩:∃ X,X=((((V.setCell ⟨w.heap.size,0,none⟩ (.int .i64 (kd:Int))).setCell ⟨w.heap.size,1,none⟩ (.int .i64 0)).setCell ⟨w.heap.size,2,none⟩ (.int .i64 (k:Int))).setCell ⟨w.heap.size,3,none⟩ (.string ST)):=⟨_,rfl⟩
         obtain⟨x0,x1,x2,x3,hbX⟩:=HR.out.back kd 0 k ST X hX
         rw[← hX]
         clear hX
         refine bodyPost_ret (v:=.tuple #[.agg #[.int .i64 (kd:Int),.int .i64 0,.int .i64 (k:Int),.string ST],.int .i64 0,.int .i64 5,.int .i64 (k:Int)]) (by simp[results,Tryz.results27,go_sem,x0,x1,x2,x3]) rfl ⟨?_,hbX⟩
         rw[HE.out]
         exact⟨_,_,_,_,rfl⟩
        ·have he:oneWord (s.data.toList.drop k)=.tok kd 0 (D.map lower) D.length:=by unfold oneWord;rw[← HD.out,if_neg h20,HK.out]
         have HE:=zH he
         have q1:¬ (ST.size:Int) > 20:=by omega
         clear he
         go_wp2_with fail
         obtain⟨X,hX⟩:∃ X,X=((((V.setCell ⟨w.heap.size,0,none⟩ (.int .i64 (kd:Int))).setCell ⟨w.heap.size,1,none⟩ (.int .i64 0)).setCell ⟨w.heap.size,2,none⟩ (.int .i64 (k:Int))).setCell ⟨w.heap.size,3,none⟩ (.string ST)):=⟨_,rfl⟩
         obtain⟨x0,x1,x2,x3,hbX⟩:=HR.out.back kd 0 k ST X hX
         rw[← hX]
         clear hX
         refine bodyPost_ret (v:=.tuple #[.agg #[.int .i64 (kd:Int),.int .i64 0,.int .i64 (k:Int),.string ST],.int .i64 (j:Int),.int .i64 0,.int .i64 0]) (by simp[results,Tryz.results27,go_sem,x0,x1,x2,x3]) rfl ⟨?_,hbX⟩
         rw[HE.out,HST.out,HJ.out]
         rfl
  ·have hjk:j=k+D.length:=by omega
   have HJ:=zH hjk
   clear hjk
   obtain⟨c0,f8⟩:=And.intro R0.out.c0 (R0.out.f8 0)
   go_wp2_with fail
   obtain⟨Y,hY⟩:∃ Y,Y=W.setCell ⟨w.heap.size+1,0,none⟩ (.int .i64 2):=⟨_,rfl⟩
   have RY:=zH (show RS w Y 2 0 k ⟨#[]⟩ by rw[hY];exact R0.out.setK 2)
   try rw[← hY]
   clear hY c0 f8
   have hex:(s.extract k j).data.toList=D:=by
    rw[ByteArray.data_extract,Array.toList_extract,List.extract_eq_take_drop,HJ.out,Nat.add_sub_cancel_left,HD.out]
    exact (List.prefix_iff_eq_take.1 (List.takeWhile_prefix isWordB)).symm
   have hexs:(s.extract k j).size≤2000:=by rw[← show (s.extract k j).data.toList.length=(s.extract k j).size from Array.length_toList,hex];omega
   have HEX:=zH hex
   clear hex
   refine (rsmall_any _ _ hexs).mono ?_
   rintro e Z ⟨rfl,hbZ⟩
   rw[HEX.out]
   obtain⟨ST,hST⟩:∃ ST,ST=bsB (D.map lower):=⟨_,rfl⟩
   have hSTs:ST.size=D.length:=by rw[hST,bsB_len,List.length_map]
   rw[← hST]
   have HST:=zH hST
   have RZ:=zH (RY.out.ext hbZ)
   obtain⟨c3,f8⟩:=And.intro RZ.out.c3 (RZ.out.f8 3)
   clear hST hexs hbZ
   go_wp2_with fail
   obtain⟨U,hU⟩:∃ U,U=Z.setCell ⟨w.heap.size+1,3,none⟩ (.string ST):=⟨_,rfl⟩
   have RU:=zH (show RS w U 2 0 k ST by rw[hU];exact RZ.out.setS ST)
   try rw[← hU]
   clear hU c3 f8
   refine (rwords_any U).mono ?_
   rintro e T ⟨g,rfl,hStr,hbT⟩
   have RT:=zH (RU.out.ext hbT)
   have hgw:∀ i x,wordsL[i]?=some x→T.cell? ⟨g,i,none⟩=some (.string x)∧w.heap.size+1<g:=fun i x hx=>by
    obtain⟨g',off,hg,h1,_,hc⟩:=hStr i (List.getElem?_eq_some_iff.1 hx).1
    obtain⟨rfl,rfl⟩:g=g'∧0=off:=by simpa using hg
    have h2:=hc i x hx
    unfold strC at h2
    rw[Nat.zero_add,Nat.mul_one] at h2
    exact⟨h2,Nat.lt_of_lt_of_le RU.out.lt h1⟩
   have H0:=zH hgw
   clear hgw hStr hbT
   go_wp2_with fail
   go_loopw [12] (fun vi wr=>∃ i:Nat,vi=.int .i64 i∧i≤25∧Hid (RS w wr (pickK (D.map lower) i) 0 k ST∧∀ i x,wordsL[i]?=some x→wr.cell? ⟨g,i,none⟩=some (.string x)∧w.heap.size+1<g)) (fun vi _=>25 - (intOf vi).toNat)
   case atStart=>exact⟨0,rfl,by omega,RT.out,H0.out⟩
   case round =>
    clear H0
    obtain⟨i,rfl,hi,HH⟩:=hrel
    obtain⟨V,hV⟩:∃ V,V=wr:=⟨_,rfl⟩
    rw[← hV] at HH
    rw[← hV]
    clear hV
    by_cases hlt2:i<25
    ·obtain⟨x,hx⟩:∃ x,wordsL[i]?=some x:=⟨_,List.getElem?_eq_getElem hlt2⟩
     obtain⟨cx,hgg⟩:=HH.out.2 i x hx
     have hxl:lexWords[i]?=some x.data.toList:=by rw[← words_lex,List.getElem?_map,hx];rfl
     obtain⟨c3,f8⟩:=And.intro HH.out.1.c3 (HH.out.1.f8 0)
     have c0:=HH.out.1.c0
     by_cases heq:x.data.toList=D.map lower
     ·have m1:(x.toList == ST.toList)=true:=by rw[HST.out,ByteArray.toList_eq,ByteArray.toList_eq,heq];simp
      have hnext:pickK (D.map lower) (i+1)=1:=by rw[pickK,if_pos (by rw[hxl,heq])]
      have HN:=zH hnext
      clear hnext heq hxl hx
      go_wp2_with fail
      go_big_quiet (fail)
      go_wp2_with fail
      go_roundw
      case rel =>
       refine⟨i+1,by go_num,hlt2,?_,fun i x h=>⟨?_,hgg⟩⟩
       ·rw[HN.out];exact (HH.out.1.ext (ext_drewN (ext_refl _) nq)).setK 1
       ·exact (World.cell?_setCell_other _ _ _ _ (fun e=>by have h1:=congrArg Addr.block e;simp at h1;omega)).trans (HH.out.2 i x h).1
      case measure=>simp[intOf] <;> omega
     ·have m1:(x.toList == ST.toList)=false:=by rw[HST.out,ByteArray.toList_eq,ByteArray.toList_eq,beq_eq_false_iff_ne];exact heq
      have hnext:pickK (D.map lower) (i+1)=pickK (D.map lower) i:=by rw[pickK,if_neg (by rw[hxl];simpa using heq)]
      have HN:=zH hnext
      clear hnext heq hxl hx c0
      go_wp2_with fail
      go_big_quiet (fail)
      go_wp2_with fail
      go_roundw
      case rel=>exact⟨i+1,by go_num,hlt2,by rw[HN.out];exact HH.out.1.ext (ext_drewN (ext_refl _) nq),fun i x h=>HH.out.2 i x h⟩
      case measure=>simp[intOf] <;> omega
    ·obtain rfl:i=25:=by omega
     have r:=HH.out.1
     rw[pickK_all,show lexWords.take 25=lexWords from rfl] at r
     obtain⟨kd,hkd⟩:∃ kd:Nat,kd=if D.map lower∈lexWords then 1 else 2:=⟨_,rfl⟩
     rw[show (if D.map lower∈lexWords then (1:Int) else 2)=(kd:Int) by rw[hkd];split <;> rfl] at r
     have HR:=zH r
     have HK:=zH hkd
     obtain⟨c0,c1,c2,c3⟩:=And.intro r.c0 (And.intro r.c1 (And.intro r.c2 r.c3))
     obtain⟨z0,z1,z2,z3⟩:=And.intro r.z0 (And.intro r.z1 (And.intro r.z2 r.z3))
     have f4:=r.f4
     have f8:=r.f8
     clear r HH hkd RT RU RZ RY R0
     by_cases h20:20<D.length
     ·have he:oneWord (s.data.toList.drop k)=.err 5 0:=by unfold oneWord;rw[← HD.out,if_pos h20]
      have HE:=zH he
      have q1:(ST.size:Int) > 20:=by omega
      clear he
      go_wp2_with fail
      obtain⟨X,hX⟩:∃ X,X=((((V.setCell ⟨w.heap.size,0,none⟩ (.int .i64 (kd:Int))).setCell ⟨w.heap.size,1,none⟩ (.int .i64 0)).setCell ⟨w.heap.size,2,none⟩ (.int .i64 (k:Int))).setCell ⟨w.heap.size,3,none⟩ (.string ST)):=⟨_,rfl⟩
      obtain⟨x0,x1,x2,x3,hbX⟩:=HR.out.back kd 0 k ST X hX
      rw[← hX]
      clear hX
      refine bodyPost_ret (v:=.tuple #[.agg #[.int .i64 (kd:Int),.int .i64 0,.int .i64 (k:Int),.string ST],.int .i64 0,.int .i64 5,.int .i64 (k:Int)]) (by simp[results,Tryz.results27,go_sem,x0,x1,x2,x3]) rfl ⟨?_,hbX⟩
      rw[HE.out]
      exact⟨_,_,_,_,rfl⟩
     ·have he:oneWord (s.data.toList.drop k)=.tok kd 0 (D.map lower) D.length:=by unfold oneWord;rw[← HD.out,if_neg h20,HK.out]
      have HE:=zH he
      have q1:¬ (ST.size:Int) > 20:=by omega
      clear he
      go_wp2_with fail
      obtain⟨X,hX⟩:∃ X,X=((((V.setCell ⟨w.heap.size,0,none⟩ (.int .i64 (kd:Int))).setCell ⟨w.heap.size,1,none⟩ (.int .i64 0)).setCell ⟨w.heap.size,2,none⟩ (.int .i64 (k:Int))).setCell ⟨w.heap.size,3,none⟩ (.string ST)):=⟨_,rfl⟩
      obtain⟨x0,x1,x2,x3,hbX⟩:=HR.out.back kd 0 k ST X hX
      rw[← hX]
      clear hX
      refine bodyPost_ret (v:=.tuple #[.agg #[.int .i64 (kd:Int),.int .i64 0,.int .i64 (k:Int),.string ST],.int .i64 (j:Int),.int .i64 0,.int .i64 0]) (by simp[results,Tryz.results27,go_sem,x0,x1,x2,x3]) rfl ⟨?_,hbX⟩
      rw[HE.out,HST.out,HJ.out]
      rfl
end Go.Proofs.YtapbglhjamddbaaGreatDoor
