/- A part of the proof. -/
import Derived.Test.YtklgoajgchfmeaaDoorKg
import Derived.Test.YtklgoajgchfmeaaDoorKd
import Derived.Test.YtklgoajgchfmeaaDoorKk
import Derived.Test.YtklgoajgchfmeaaDoorHd
namespace Go.Proofs.YtklgoajgchfmeaaDoor
open Go.Lib
def rkN (set:Nat) (rel:Nat):Nat:=((List.range rel).filter fun i=>set.testBit i).length
theorem rkN_le (set rel:Nat):rkN set rel≤rel:=by
 unfold rkN
 refine Nat.le_trans (List.length_filter_le _ _) ?_
 simp
mutual
def Ex.rank (set:Nat):Ex→Ex
 | .mk op v rel col n s l=>.mk op v (if op=2 then (rkN set rel.toNat:Int) else rel) col n s (rankL set l)
def rankL (set:Nat):List Ex→List Ex
 | []=>[]
 | x :: r=>x.rank set :: rankL set r
end
theorem rankL_map (set:Nat):∀ l:List Ex,rankL set l=l.map (Ex.rank set)
 | []=>by rw[rankL];rfl
 | x :: r=>by rw[rankL,rankL_map set r];rfl
theorem head_rank (set:Nat) {op:Int} {v:Val} {rel col n:Int} {s:ByteArray} {len:Nat} (h:headOk op v rel col n s len=true):headOk op v (if op=2 then (rkN set rel.toNat:Int) else rel) col n s len=true:=by
 by_cases h2:op=2
 ·subst h2
  have h1:=rel_ok h rfl
  have h3:=rkN_le set rel.toNat
  rw[if_pos rfl]
  unfold headOk at h ⊢
  simp only[Bool.and_eq_true,beq_iff_eq,Bool.or_eq_true,if_true,decide_eq_true_eq] at h ⊢
  obtain⟨⟨h4,h5⟩,h6⟩:=h
  exact⟨⟨h4,⟨⟨by omega,by omega⟩,h5.1.2⟩,h5.2⟩,h6⟩
 ·rw[if_neg h2];exact h
mutual
theorem rank_ok (set:Nat):∀ x:Ex,x.okAll=true→(x.rank set).okAll=true∧(x.rank set).deep=x.deep∧(x.rank set).count=x.count
 | .mk op v rel col n s l,h=>by
  rw[Ex.okAll,Bool.and_eq_true] at h
  obtain⟨a0,a1,a2,a3⟩:=rankL_ok set l h.2
  rw[Ex.rank]
  refine⟨?_,?_,?_⟩
  ·rw[Ex.okAll,a0,a1,head_rank set h.1];rfl
  ·rw[Ex.deep,Ex.deep,a2]
  ·rw[Ex.count,Ex.count,a3]
theorem rankL_ok (set:Nat):∀ l:List Ex,okL l=true→(rankL set l).length=l.length∧okL (rankL set l)=true∧deepL (rankL set l)=deepL l∧countL (rankL set l)=countL l
 | [],_=>by rw[rankL];exact⟨rfl,rfl,rfl,rfl⟩
 | x :: r,h=>by
  rw[okL,Bool.and_eq_true] at h
  obtain⟨h1,h2,h3⟩:=rank_ok set x h.1
  obtain⟨a0,a1,a2,a3⟩:=rankL_ok set r h.2
  rw[rankL]
  refine⟨by simp[a0],?_,?_,?_⟩
  ·rw[okL,h1,a1];rfl
  ·rw[deepL,deepL,h2,a2]
  ·rw[countL,countL,h3,a3]
end
theorem rank_right (set:Nat) {x:Ex} (h:rightE x=true):rightE (x.rank set)=true:=by
 obtain⟨h1,h2,h3⟩:=right_iff8.1 h
 obtain⟨a,b,c⟩:=rank_ok set x h1
 exact right_iff8.2 ⟨a,by omega,by omega⟩
def inSet (set:Int) (x:Ex):Bool:=decide (0≤set) && decide (tablesE x≠0) && decide (tablesE x &&& set.toNat=tablesE x)
def withinE (set:Int) (L:List Ex):List Nat:=(List.range L.length).filter fun i=>inSet set (L.getD i (.mk 0 zeroVal 0 0 0 ⟨#[]⟩ []))
def rankedE (set:Int) (L:List Ex):List Ex:=(L.filter (inSet set)).map (Ex.rank set.toNat)
theorem filter_snoc {L:List Ex} {i:Nat} {x:Ex} (p:Ex→Bool) (h:L[i]?=some x):(L.take (i+1)).filter p=(L.take i).filter p++(if p x then [x] else []):=by
 rw[take_snoc h,List.filter_append]
 cases hp:p x <;> simp[hp]
theorem within_snoc (set:Int) (L:List Ex) (i:Nat) (h:i<L.length):((List.range (i+1)).filter fun i=>inSet set (L.getD i (.mk 0 zeroVal 0 0 0 ⟨#[]⟩ [])))=((List.range i).filter fun i=>inSet set (L.getD i (.mk 0 zeroVal 0 0 0 ⟨#[]⟩ [])))++(if inSet set (L[i]'h) then [i] else []):=by
 rw[List.range_succ,List.filter_append]
 have e:L.getD i (.mk 0 zeroVal 0 0 0 ⟨#[]⟩ [])=L[i]'h:=by rw[List.getD_eq_getElem?_getD,List.getElem?_eq_getElem h];rfl
 congr 1
 cases hp:inSet set (L[i]'h)
 ·rw[List.filter_cons,e,hp];rfl
 ·rw[List.filter_cons,e,hp];rfl
theorem within_at (set:Int) (L:List Ex):∀ (m:Nat),m≤L.length→(((List.range m).filter fun i=>inSet set (L.getD i (.mk 0 zeroVal 0 0 0 ⟨#[]⟩ []))).map fun i=>L.getD i (.mk 0 zeroVal 0 0 0 ⟨#[]⟩ []))=(L.take m).filter (inSet set)
 | 0,_=>by simp
 | m+1,h=>by
  have hm:m<L.length:=by omega
  rw[within_snoc set L m hm,List.map_append,within_at set L m (by omega),filter_snoc (inSet set) (List.getElem?_eq_getElem hm)]
  congr 1
  have e:L.getD m (.mk 0 zeroVal 0 0 0 ⟨#[]⟩ [])=L[m]'hm:=by rw[List.getD_eq_getElem?_getD,List.getElem?_eq_getElem hm];rfl
  cases hp:inSet set (L[m]'hm)
  ·rfl
  ·show [L.getD m (.mk 0 zeroVal 0 0 0 ⟨#[]⟩ [])]=[_];rw[e]
theorem within_is (set:Int) (L:List Ex):((withinE set L).map fun i=>(L.getD i (.mk 0 zeroVal 0 0 0 ⟨#[]⟩ [])).rank set.toNat)=rankedE set L:=by
 have h:=within_at set L L.length (Nat.le_refl _)
 rw[List.take_length] at h
 unfold withinE rankedE
 rw[← h,List.map_map]
 rfl
theorem within_lt (set:Int) (L:List Ex):∀ i∈withinE set L,i<L.length:=fun i hi=>by
 unfold withinE at hi
 have:=(List.mem_filter.1 hi).1
 simpa using this
theorem inSet_right {set:Int} {x:Ex} (h:inSet set x=true):rightE x=true:=by
 unfold inSet tablesE at h
 cases hr:rightE x
 ·rw[hr] at h;simp at h
 ·rfl
theorem ranked_right (set:Int) (L:List Ex):(rankedE set L).all rightE=true:=List.all_eq_true.2 fun y hy=>by
 obtain⟨x,hx,rfl⟩:=List.mem_map.1 hy
 exact rank_right _ (inSet_right (List.mem_filter.1 hx).2)
def tabsT (set:Nat):Nat→List Int→Bs
 | _,[]=>[]
 | i,t :: r=>(if set.testBit i then Lib.itoa t++[32] else [])++tabsT set (i+1) r
def textsT:List Ex→Bs
 | []=>[]
 | x :: r=>x.print++(59 :: textsT r)
def partE (tabs:List Int) (core:Int) (L:List Ex) (set:Int):Bool :=
 decide (1≤core) && decide (core≤4) && decide (core≤tabs.length) && decide (1≤set) && decide (set<2 ^ core.toNat) && L.all rightE
def ofE (tabs:List Int) (core:Int) (L:List Ex) (set:Int):Bs × Int :=
 if partE tabs core L set=true then (83 :: (tabsT set.toNat 0 (tabs.take core.toNat)++textsT (sortE ((rankedE set L).map Ex.norm))),0) else ([],1)
open Go.RowKit Go.Maps Go.ChangeShapes Go.Deep
set_option maxRecDepth 100000
theorem andnot_zero (x y:BitVec 64):x &&& ~~~y=0#64↔x &&& y=x:=by
 constructor
 ·intro h
  refine BitVec.eq_of_getLsbD_eq fun i hi=>?_
  have h1:=congrArg (fun z:BitVec 64=>z.getLsbD i) h
  simp[hi] at h1 ⊢
  exact h1
 ·intro h
  refine BitVec.eq_of_getLsbD_eq fun i hi=>?_
  have h1:=congrArg (fun z:BitVec 64=>z.getLsbD i) h
  simp[hi] at h1 ⊢
  exact h1
theorem bits_andnot {t S:Nat} (ht:t<65536) (hS:S<9223372036854775808):(bits .andNot .i64 (t:Int) (S:Int) == 0)=decide (t &&& S=t):=by
 have key:bits .andNot .i64 (t:Int) (S:Int)=IntKind.wrap .i64 ((BitVec.ofNat 64 t &&& ~~~ BitVec.ofNat 64 S).toNat:Int):=by
  change IntKind.wrap .i64 ((BitVec.ofInt 64 (t:Int) &&& ~~~ BitVec.ofInt 64 (S:Int)).toNat:Int)=_
  rw[BitVec.ofInt_natCast,BitVec.ofInt_natCast]
 have hle:(BitVec.ofNat 64 t &&& ~~~ BitVec.ofNat 64 S).toNat≤t:=by
  rw[BitVec.toNat_and]
  refine Nat.le_trans Nat.and_le_left ?_
  rw[BitVec.toNat_ofNat]
  exact Nat.mod_le _ _
 have hz:(BitVec.ofNat 64 t &&& ~~~ BitVec.ofNat 64 S).toNat=0↔t &&& S=t:=by
  rw[show (BitVec.ofNat 64 t &&& ~~~ BitVec.ofNat 64 S).toNat=0↔BitVec.ofNat 64 t &&& ~~~ BitVec.ofNat 64 S=0#64 from ⟨fun h=>BitVec.eq_of_toNat_eq (by rw[h];rfl),fun h=>by rw[h];rfl⟩,andnot_zero]
  rw[← BitVec.toNat_inj,BitVec.toNat_and,BitVec.toNat_ofNat,BitVec.toNat_ofNat,Nat.mod_eq_of_lt (by omega),Nat.mod_eq_of_lt (by omega)]
 rw[key,IntKind.wrap_i64,Bool.eq_iff_iff,beq_iff_eq,decide_eq_true_eq,← hz]
 try unfold wrap64
 omega
abbrev nCell (z:Int):List Value:=[.int .i64 z]
theorem nCell_len (z:Int):(nCell z).length=1:=rfl
theorem nCell_one (z:Int) (u:Value) (h:u∈nCell z):u.oneCell'=true:=by simp[nCell] at h;subst h;rfl
theorem Tryd.infoIntN:(Tryd.prog.info? 3).map (fun i=>(i.zero,i.size,i.bytes))=some (some (.int .i64 0),1,8):=by kernel_rfl
abbrev OwnN (w:World) (b:Nat) (v:Value) (l:List Int):Prop:=OwnF w b 3 1 nCell v l
set_option maxHeartbeats 16000000 in
theorem dwithin_any (L:List Ex) (q:Option Addr) (c:Nat) (set:Int) (w:World) (hL:ExL w q 0 L) (hn:L.length*104≤140737488355328) (hG:GE w) (hs:inR set=true) :
  Calls Tryd.prog 16 #[.slice q L.length c,.int .i64 set] w fun e w'=>(∃ v,e=.returned v∧OwnN w' w.heap.size v ((withinE set L).map fun i:Nat=>(i:Int)))∧Below w.heap.size w w':=by
 have HL:=zH hL
 have HG:=zH hG
 obtain⟨len,hlen⟩:∃ len,len=L.length:=⟨_,rfl⟩
 rw[← hlen] at hn ⊢
 have HLEN:=zH hlen
 clear hL hG hlen
 by_cases h0:set<0
 ·have HE:=zH (show withinE set L=[] by
   unfold withinE
   refine List.filter_eq_nil_iff.2 fun i _=>?_
   unfold inSet
   rw[decide_eq_false (by omega)]
   simp)
  go_enter Tryd.func16,Tryd.ntmps16
  go_wp2_with fail
  refine bodyPost_ret (v:=.slice none 0 0) (by simp[results,Tryd.results16,go_sem]) rfl ⟨⟨_,rfl,?_⟩,Below.refl _ _⟩
  rw[HE.out]
  exact OwnF.nil _ _ _
 ·obtain⟨S,hS⟩:∃ S:Nat,set=S:=⟨set.toNat,by omega⟩
  subst hS
  obtain⟨hs1,hs2⟩:=inR_iff.1 hs
  have hS63:S<9223372036854775808:=by omega
  clear hs hs1 hs2 h0
  go_enter Tryd.func16,Tryd.ntmps16
  go_wp2_with fail
  go_loopw [5,13] (fun v5 v13 wr=>∃ i:Nat,v13=.int .i64 i∧i≤len∧Hid (OwnN wr w.heap.size v5 (((List.range i).filter fun i=>inSet S (L.getD i (.mk 0 zeroVal 0 0 0 ⟨#[]⟩ []))).map fun i:Nat=>(i:Int))∧Below w.heap.size w wr)) (fun _ v13 _=>((len:Int) - intOf v13).toNat)
  case atStart=>exact⟨0,rfl,Nat.zero_le _,OwnF.nil _ _ _,Below.refl _ _⟩
  case round =>
   obtain⟨i,rfl,hi,HH⟩:=hrel
   obtain⟨V,hV⟩:∃ V,V=wr:=⟨_,rfl⟩
   rw[← hV] at HH
   rw[← hV]
   clear hV
   have HO:=zH HH.out.1
   have HB:=zH HH.out.2
   clear HH
   by_cases hlt:i<len
   ·have hiL:i<L.length:=by rw[← HLEN.out];exact hlt
    have hy:L[i]?=some (L[i]'hiL):=List.getElem?_eq_getElem hiL
    have HT:=zH (within_snoc S L i hiL)
    obtain⟨y,hye⟩:∃ y,y=L[i]'hiL:=⟨_,rfl⟩
    rw[← hye] at hy HT
    have hl_:=ExL.at_ (ExL.ext HB.out _ _ _ HL.out) hy
    obtain⟨g0,off0,cs0,hq0,hg0,hx0,hcell⟩:=hl_
    subst hq0
    have HX0:=zH hx0
    obtain⟨M,hM⟩:∃ M,M=((List.range i).filter fun i=>inSet S (L.getD i (.mk 0 zeroVal 0 0 0 ⟨#[]⟩ []))):=⟨_,rfl⟩
    rw[← hM] at HO HT
    have HML:=zH (show M.length≤i by rw[hM];exact Nat.le_trans (List.length_filter_le _ _) (by simp))
    clear hy hM hye hiL
    obtain⟨op1,v1,rel1,col1,n1,s1,l1⟩:=y
    rw[ExM.iff] at hx0
    obtain⟨-,qq0,cc0,rfl,-,-⟩:=hx0
    have f0:=hcell 0 _ rfl
    have f1:=hcell 1 _ rfl
    have f2:=hcell 2 _ rfl
    have f3:=hcell 3 _ rfl
    have f4:=hcell 4 _ rfl
    have f5:=hcell 5 _ rfl
    have f6:=hcell 6 _ rfl
    have f7:=hcell 7 _ rfl
    have f8:=hcell 8 _ rfl
    simp only[Nat.zero_add,Nat.add_zero] at f0 f1 f2 f3 f4 f5 f6 f7 f8
    clear hcell
    go_wp2_with fail
    have B1:Below V.heap.size V (V.alloc (.cells (exCells op1 v1 rel1 col1 n1 s1 qq0 l1.length cc0).toArray 26)):=ext_alloc (ext_refl _) _
    refine (dtables_any _ _ (V.alloc (.cells (exCells op1 v1 rel1 col1 n1 s1 qq0 l1.length cc0).toArray 26)) (ExM.ext B1 _ _ HX0.out) (HG.out.on (HB.out.trans (B1.mono HB.out.size)))).mono ?_
    rintro e X ⟨rfl,hbX⟩
    have HBX:=zH (B1.trans (hbX.mono B1.size))
    have HIN:=zH (show inSet S (.mk op1 v1 rel1 col1 n1 s1 l1)=(decide (tablesE (.mk op1 v1 rel1 col1 n1 s1 l1)≠0) && decide (tablesE (.mk op1 v1 rel1 col1 n1 s1 l1) &&& S=tablesE (.mk op1 v1 rel1 col1 n1 s1 l1))) by unfold inSet;simp)
    have hTlt:tablesE (.mk op1 v1 rel1 col1 n1 s1 l1)<65536:=by
     unfold tablesE
     cases hr:rightE (.mk op1 v1 rel1 col1 n1 s1 l1)
     ·show 0<65536;decide
     ·exact tabs_lt _ (right_iff8.1 hr).1
    obtain⟨T,hTe⟩:∃ T,T=tablesE (.mk op1 v1 rel1 col1 n1 s1 l1):=⟨_,rfl⟩
    rw[← hTe] at HIN hTlt ⊢
    have hAN:=bits_andnot (S:=S) hTlt hS63
    obtain⟨Z,hZ⟩:∃ Z,bits .andNot .i64 (T:Int) (S:Int)=Z:=⟨_,rfl⟩
    rw[hZ] at hAN
    clear hTe B1 hbX f0 f1 f2 f3 f4 f5 f6 f7 f8
    have hll:i+1≤1353245080340:=by omega
    cases hin:inSet S (.mk op1 v1 rel1 col1 n1 s1 l1) with
    | true =>
     have h1:=HIN.out
     rw[hin] at h1
     rw[eq_comm,Bool.and_eq_true,decide_eq_true_eq,decide_eq_true_eq] at h1
     have b1:((T:Int) != 0)=true:=by rw[bne_iff_ne];omega
     rw[decide_eq_true h1.2] at hAN
     rw[hin,if_pos rfl] at HT
     have HO2:=zH ((HO.out.later HBX.out).later (ext_alloc (ext_refl X) (.cells #[.int .i64 (i:Int)] 3)))
     have B2:=zH (HBX.out.trans ((ext_alloc (ext_refl X) (.cells #[.int .i64 (i:Int)] 3)).mono HBX.out.size))
     have hml:(M.map fun i:Nat=>(i:Int)).length≤i:=by rw[List.length_map];exact HML.out
     obtain⟨K,hK⟩:∃ K,K=M.map fun i:Nat=>(i:Int):=⟨_,rfl⟩
     rw[← hK] at HO2 hml
     have HK:=zH hK
     clear h1 hin hK
     go_wp2_with (at_builtin;refine wp_append_flat rfl _ _ 40 3 rfl Tryd.underlying40 (.int .i64 0) 8 Tryd.infoIntN rfl (by decide) nCell_len nCell_one w.heap.size _ K rfl HO2.out _ 1 1 [(i:Int)] rfl rfl 0 (X.heap.size+1) (one_block nCell_len 3 #[.int .i64 (i:Int)] (i:Int) rfl _ rfl) ?k1 ?k2 ?k3 ?_)
     case k1=>simp only[List.length_cons,List.length_nil];unfold maxLen;omega
     case k2=>simp only[List.length_cons,List.length_nil];omega
     case k3=>exact Nat.le_trans HB.out.size B2.out.size
     intro v' Y hO hbY hoY
     have HN:=zH (show OwnN Y w.heap.size v' (((List.range (i+1)).filter fun i=>inSet S (L.getD i (.mk 0 zeroVal 0 0 0 ⟨#[]⟩ []))).map fun i:Nat=>(i:Int)) by rw[HT.out,List.map_append,← HK.out];exact hO)
     have HBY:=zH ((HB.out.trans (B2.out.mono HB.out.size)).trans hbY)
     clear hO hbY hoY HO HO2 B2 HBX HX0 HIN hml HK
     go_wp2_with fail
     go_roundw
     case rel=>exact⟨i+1,by go_num,hlt,HN.out,HBY.out⟩
     case measure=>simp[intOf] <;> omega
    | false =>
     have h1:=HIN.out
     rw[hin] at h1
     rw[hin,if_neg (by decide),List.append_nil] at HT
     have HN:=zH (show OwnN X w.heap.size u5 (((List.range (i+1)).filter fun i=>inSet S (L.getD i (.mk 0 zeroVal 0 0 0 ⟨#[]⟩ []))).map fun i:Nat=>(i:Int)) by rw[HT.out];exact HO.out.later HBX.out)
     have HBY:=zH (HB.out.trans (HBX.out.mono HB.out.size))
     by_cases h0:T=0
     ·have b1:((T:Int) != 0)=false:=by rw[h0];rfl
      clear h1 hin HO HX0 HIN hAN hZ h0
      go_wp2_with fail
      go_roundw
      case rel=>exact⟨i+1,by go_num,hlt,HN.out,HBY.out⟩
      case measure=>simp[intOf] <;> omega
     ·have b1:((T:Int) != 0)=true:=by rw[bne_iff_ne];omega
      rw[decide_eq_true h0,Bool.true_and] at h1
      rw[← h1] at hAN
      clear h1 hin HO HX0 HIN h0
      go_wp2_with fail
      go_roundw
      case rel=>exact⟨i+1,by go_num,hlt,HN.out,HBY.out⟩
      case measure=>simp[intOf] <;> omega
   ·have HE:=zH (show ((List.range i).filter fun i=>inSet S (L.getD i (.mk 0 zeroVal 0 0 0 ⟨#[]⟩ [])))=withinE S L by rw[show i=L.length by rw[← HLEN.out];omega];rfl)
    rw[HE.out] at HO
    go_wp2_with fail
    refine bodyPost_ret (v:=u5) (by simp[results,Tryd.results16,go_sem]) rfl ⟨⟨_,rfl,HO.out⟩,HB.out⟩
open Go.RowKit Go.Maps Go.ChangeShapes Go.Deep
set_option maxRecDepth 100000
structure Sq where
 q:Option Addr
 n:Nat
 c:Nat
structure RawK where
 t:Sq
 core:Int
 k:Sq
 on:Sq
 co:Sq
 af:Sq
 un:Sq
 g:Bool
 ke:Sq
 it:Sq
 d:Bool
abbrev RawK.cells (r:RawK):List Value:=[.slice r.t.q r.t.n r.t.c,.int .i64 r.core,.slice r.k.q r.k.n r.k.c,.slice r.on.q r.on.n r.on.c,.slice r.co.q r.co.n r.co.c,.slice r.af.q r.af.n r.af.c,.slice r.un.q r.un.n r.un.c,.bool r.g,.slice r.ke.q r.ke.n r.ke.c,.slice r.it.q r.it.n r.it.c,.bool r.d]
structure BlkIn (w:World) (r:RawK) (tabs:List Int) (L:List Ex):Prop where
 tn:r.t.n=tabs.length
 tc:r.t.n≤r.t.c∧r.t.c≤9223372036854775807
 t:IntsA w 0 w.heap.size r.t.q tabs
 cn:r.co.n=L.length
 cc:r.co.n≤r.co.c∧r.co.c≤9223372036854775807
 co:ExL w r.co.q 0 L
 few:L.length*104≤140737488355328
theorem BlkIn.on {w w':World} {r:RawK} {tabs:List Int} {L:List Ex} (h:BlkIn w r tabs L) (hb:Below w.heap.size w w'):BlkIn w' r tabs L:=by
 obtain⟨h1,h2,h3,h4,h5,h6,h7⟩:=h
 refine⟨h1,h2,fun i hi=>?_,h4,h5,ExL.ext hb _ _ _ h6,h7⟩
 obtain⟨g,off,e,a1,a2,a3⟩:=h3 i hi
 exact⟨g,off,e,a1,Nat.lt_of_lt_of_le a2 hb.size,fun j x hx=>(hb.cell (p:=⟨g,_,none⟩) a2).trans (a3 j x hx)⟩
structure KB (W:World) (g:Nat) (cs:List Value):Prop where
 lt:g<W.heap.size
 c:∀ k u,cs[k]?=some u→W.cell? ⟨g,k,none⟩=some u
theorem KB.on {W W':World} {g:Nat} {cs:List Value} (h:KB W g cs) (hb:Below W.heap.size W W'):KB W' g cs:=⟨Nat.lt_of_lt_of_le h.lt hb.size,fun k u hu=>(hb.cell (p:=⟨g,k,none⟩) h.lt).trans (h.c k u hu)⟩
theorem KB.new (W:World) (cs:List Value) (T:TypeId):KB (W.alloc (.cells cs.toArray T)) W.heap.size cs:=⟨by simp,fun k u hu=>by rw[Lib.cell_of_heap (heap_alloc_new W _),List.getElem?_toArray];exact hu⟩
set_option maxHeartbeats 16000000 in
theorem isPart_any (r:RawK) (tabs:List Int) (L:List Ex) (set:Int) (w:World) (h:BlkIn w r tabs L) (hG:GE w) (hs:inR set=true) (hci:inR r.core=true) :
  Calls Tryd.prog 30 #[.agg r.cells.toArray,.int .i64 set] w fun e w'=>e=.returned (.bool (partE tabs r.core L set))∧Below w.heap.size w w':=by
 have H:=zH h
 have HG:=zH hG
 have K0:=KB.new w r.cells 43
 have B0:Below w.heap.size w (w.alloc (.cells r.cells.toArray 43)):=ext_alloc (ext_refl _) _
 obtain⟨⟨tq,tn,tc⟩,core,⟨kq,kn,kc⟩,⟨oq,on,oc⟩,⟨cq,cn,cc⟩,⟨aq,an,ac⟩,⟨uq,un,uc⟩,gr,⟨eq,en,ec⟩,⟨iq,in_,ic⟩,di⟩:=r
 have htn:tn=tabs.length:=h.tn
 obtain⟨hs1,hs2⟩:=inR_iff.1 hs
 obtain⟨hc1,hc2⟩:=inR_iff.1 hci
 simp only at hc1 hc2
 have HTN:=zH htn
 obtain⟨W,hW⟩:∃ W,W=w.alloc (.cells (RawK.cells ⟨⟨tq,tn,tc⟩,core,⟨kq,kn,kc⟩,⟨oq,on,oc⟩,⟨cq,cn,cc⟩,⟨aq,an,ac⟩,⟨uq,un,uc⟩,gr,⟨eq,en,ec⟩,⟨iq,in_,ic⟩,di⟩).toArray 43):=⟨_,rfl⟩
 rw[← hW] at K0 B0
 have HW:=zH hW
 clear hW hG hs hci htn
 go_enter Tryd.func30,Tryd.ntmps30
 go_upto_region 1 with fail
 change Code.wp _ _ _ _ (w.alloc (.cells (RawK.cells ⟨⟨tq,tn,tc⟩,core,⟨kq,kn,kc⟩,⟨oq,on,oc⟩,⟨cq,cn,cc⟩,⟨aq,an,ac⟩,⟨uq,un,uc⟩,gr,⟨eq,en,ec⟩,⟨iq,in_,ic⟩,di⟩).toArray 43))
 rw[← HW.out]
 clear HW
 obtain⟨g,hg⟩:∃ g,g=w.heap.size:=⟨_,rfl⟩
 rw[← hg] at K0 ⊢
 have HB:=zH B0
 have HK:=zH K0
 obtain⟨lt,kc_⟩:=K0
 have c0:=kc_ 0 _ rfl
 have c1:=kc_ 1 _ rfl
 have c4:=kc_ 4 _ rfl
 clear kc_ hg B0 h
 by_cases q1:core<1
 ·have HP:=zH (show partE tabs core L set=false by unfold partE;rw[decide_eq_false (by omega)];simp)
  go_wp2_with fail
  refine bodyPost_ret (v:=.bool false) (by simp[results,Tryd.results30,go_sem]) rfl ⟨by rw[HP.out],HB.out⟩
 by_cases q2:4<core
 ·have HP:=zH (show partE tabs core L set=false by unfold partE;rw[decide_eq_false (show ¬ core≤4 by omega)];simp)
  go_wp2_with fail
  refine bodyPost_ret (v:=.bool false) (by simp[results,Tryd.results30,go_sem]) rfl ⟨by rw[HP.out],HB.out⟩
 by_cases q3:(tn:Int)<core
 ·have HP:=zH (show partE tabs core L set=false by unfold partE;rw[decide_eq_false (show ¬ core≤tabs.length by have:=HTN.out;omega)];simp)
  go_wp2_with fail
  refine bodyPost_ret (v:=.bool false) (by simp[results,Tryd.results30,go_sem]) rfl ⟨by rw[HP.out],HB.out⟩
 by_cases q4:set<1
 ·have HP:=zH (show partE tabs core L set=false by unfold partE;rw[decide_eq_false (show ¬ 1≤set by omega)];simp)
  go_wp2_with fail
  refine bodyPost_ret (v:=.bool false) (by simp[results,Tryd.results30,go_sem]) rfl ⟨by rw[HP.out],HB.out⟩
 obtain⟨k,hk⟩:∃ k:Nat,core=k:=⟨core.toNat,by omega⟩
 subst hk
 obtain⟨P,hP⟩:∃ P:Int,P=2 ^ k:=⟨_,rfl⟩
 have hPw:wrap64 (2 ^ k)=P:=by have:=pow_in (rel:=(k:Int)) (by omega);rw[hP];simpa using this
 have HPE:=zH (show (2:Int) ^ (k:Int).toNat=P by rw[hP];rfl)
 clear hP
 by_cases q5:P≤set
 ·have HP:=zH (show partE tabs k L set=false by unfold partE;rw[HPE.out,decide_eq_false (show ¬ set<P by omega)];simp)
  go_wp2_with fail
  refine bodyPost_ret (v:=.bool false) (by simp[results,Tryd.results30,go_sem]) rfl ⟨by rw[HP.out],HB.out⟩
 have HPA:=zH (show partE tabs k L set=L.all rightE by
  unfold partE
  rw[HPE.out,decide_eq_true (show (1:Int)≤k by omega),decide_eq_true (show (k:Int)≤4 by omega),decide_eq_true (show (k:Int)≤tabs.length by have:=HTN.out;omega),decide_eq_true (show 1≤set by omega),decide_eq_true (show set<P by omega)]
  simp)
 have HL:=zH (show ExL W cq 0 L from ExL.ext HB.out _ _ _ H.out.co)
 have HCN:=zH (show cn=L.length from H.out.cn)
 have hfew:cn≤1353245080340:=by have h1:=H.out.few;have h2:=HCN.out;omega
 go_wp2_with fail
 clear c0 c1 c4 lt hPw q1 q2 q3 q4 q5 hc1 hc2 hs1 hs2
 go_loopw [37] (fun v37 wr=>∃ i:Nat,v37=.int .i64 i∧i≤cn∧Hid (Below w.heap.size w wr∧Below W.heap.size W wr∧(L.take i).all rightE=true)) (fun v37 _=>((cn:Int) - intOf v37).toNat)
 case atStart=>exact⟨0,rfl,Nat.zero_le _,HB.out,Below.refl _ _,rfl⟩
 case round =>
  obtain⟨i,rfl,hi,HH⟩:=hrel
  obtain⟨V,hV⟩:∃ V,V=wr:=⟨_,rfl⟩
  rw[← hV] at HH
  rw[← hV]
  clear hV
  have HBV:=zH HH.out.1
  have HBW:=zH HH.out.2.1
  have HA:=zH HH.out.2.2
  clear HH
  by_cases hlt:i<cn
  ·obtain⟨y,hy⟩:∃ y,L[i]?=some y:=⟨_,List.getElem?_eq_getElem (by rw[← HCN.out];exact hlt)⟩
   have hl_:=ExL.at_ (ExL.ext HBW.out _ _ _ HL.out) hy
   obtain⟨g0,off0,cs0,hq0,hg0,hx0,hcell⟩:=hl_
   subst hq0
   have HX0:=zH hx0
   have HTA:=zH (show (L.take (i+1)).all rightE=rightE y by rw[take_snoc hy,List.all_append,HA.out];simp)
   have HYM:=zH (List.mem_of_getElem? hy)
   clear hy
   obtain⟨op1,v1,rel1,col1,n1,s1,l1⟩:=y
   rw[ExM.iff] at hx0
   obtain⟨-,qq0,cc0,rfl,-,-⟩:=hx0
   have f0:=hcell 0 _ rfl
   have f1:=hcell 1 _ rfl
   have f2:=hcell 2 _ rfl
   have f3:=hcell 3 _ rfl
   have f4:=hcell 4 _ rfl
   have f5:=hcell 5 _ rfl
   have f6:=hcell 6 _ rfl
   have f7:=hcell 7 _ rfl
   have f8:=hcell 8 _ rfl
   simp only[Nat.zero_add,Nat.add_zero] at f0 f1 f2 f3 f4 f5 f6 f7 f8
   clear hcell
   go_wp2_with fail
   have B1:Below V.heap.size V (V.alloc (.cells (exCells op1 v1 rel1 col1 n1 s1 qq0 l1.length cc0).toArray 26)):=ext_alloc (ext_refl _) _
   refine (dright_any _ _ (V.alloc (.cells (exCells op1 v1 rel1 col1 n1 s1 qq0 l1.length cc0).toArray 26)) (ExM.ext B1 _ _ HX0.out) (HG.out.on (HBV.out.trans (B1.mono HBV.out.size)))).mono ?_
   rintro e X ⟨rfl,hbX⟩
   have HBX:=zH (HBV.out.trans ((B1.trans (hbX.mono B1.size)).mono HBV.out.size))
   have HBWX:=zH (HBW.out.trans ((B1.trans (hbX.mono B1.size)).mono HBW.out.size))
   clear B1 hbX f0 f1 f2 f3 f4 f5 f6 f7 f8 HX0
   cases hs:rightE (.mk op1 v1 rel1 col1 n1 s1 l1) with
   | false =>
    have HF:=zH (show L.all rightE=false by rw[Bool.eq_false_iff];intro h;have:=List.all_eq_true.1 h _ HYM.out;rw[hs] at this;cases this)
    clear hs
    go_wp2_with fail
    refine bodyPost_ret (v:=.bool false) (by simp[results,Tryd.results30,go_sem]) rfl ⟨by rw[HPA.out,HF.out],HBX.out⟩
   | true =>
    rw[hs] at HTA
    clear hs
    go_wp2_with fail
    go_roundw
    case rel=>exact⟨i+1,by go_num,hlt,HBX.out,HBWX.out,HTA.out⟩
    case measure=>simp[intOf] <;> omega
  ·have HE:=zH (show L.take i=L by rw[show i=L.length by rw[← HCN.out];omega,List.take_length])
   rw[HE.out] at HA
   go_wp2_with fail
   refine bodyPost_ret (v:=.bool true) (by simp[results,Tryd.results30,go_sem]) rfl ⟨by rw[HPA.out,HA.out],HBV.out⟩
open Go.RowKit Go.Maps Go.ChangeShapes Go.Deep
set_option maxRecDepth 100000
set_option maxHeartbeats 4000000 in
theorem ones64_any (k:Nat) (hk:k<16) (w:World):Calls Tryd.prog 58 #[.int .u64 (k:Int)] w fun e w'=>e=.returned (.int .i64 (rkN k 4:Int))∧Below w.heap.size w w':=by
 have hc:k=0∨k=1∨k=2∨k=3∨k=4∨k=5∨k=6∨k=7∨k=8∨k=9∨k=10∨k=11∨k=12∨k=13∨k=14∨k=15:=by omega
 clear hk
 rcases hc with rfl | rfl | rfl | rfl | rfl | rfl | rfl | rfl | rfl | rfl | rfl | rfl | rfl | rfl | rfl | rfl
 all_goals
  go_enter Tryd.func58,Tryd.ntmps58
  go_wp2_with fail
  go_ret
  exact⟨by kernel_rfl,Below.refl _ _⟩
set_option maxHeartbeats 4000000 in
theorem ones_any (k:Nat) (hk:k<16) (w:World):Calls Tryd.prog 45 #[.int .u64 (k:Int)] w fun e w'=>e=.returned (.int .i64 (rkN k 4:Int))∧Below w.heap.size w w':=by
 go_enter Tryd.func45,Tryd.ntmps45
 go_wp2_with fail
 refine (ones64_any k hk w).mono ?_
 rintro e X ⟨rfl,hb⟩
 go_wp2_with fail
 refine bodyPost_ret (v:=.int .i64 (rkN k 4:Int)) (by simp[results,Tryd.results45,go_sem]) rfl ⟨rfl,hb⟩
theorem bits_and_nat {a b:Nat} (ha:a<65536) (hb:b<65536):bits .and .i64 (a:Int) (b:Int)=((a &&& b:Nat):Int):=by
 have h:a &&& b≤a:=Nat.and_le_left
 change IntKind.wrap .i64 ((BitVec.ofInt 64 (a:Int) &&& BitVec.ofInt 64 (b:Int)).toNat:Int)=_
 rw[BitVec.ofInt_natCast,BitVec.ofInt_natCast,BitVec.toNat_and,BitVec.toNat_ofNat,BitVec.toNat_ofNat,Nat.mod_eq_of_lt (by omega),Nat.mod_eq_of_lt (by omega)]
 rw[IntKind.wrap_i64]
 try unfold wrap64
 omega
theorem ranks_all:∀ S:Fin 16,∀ r:Fin 16,rkN (S.val &&& (2 ^ r.val - 1)) 4=rkN S.val r.val∧S.val &&& (2 ^ r.val - 1)<16:=by decide
open Go.RowKit Go.Maps Go.ChangeShapes Go.Deep
set_option maxRecDepth 100000
structure NumS (W:World) (A B S:Nat):Prop where
 lA:A<W.heap.size
 lB:B<W.heap.size
 cA:W.cell? ⟨A,0,none⟩=some (.int .i64 (S:Int))
 cB:W.cell? ⟨B,0,none⟩=some (.func (.func 44) #[] #[.pointer (some ⟨A,0,none⟩),.pointer (some ⟨B,0,none⟩)])
theorem NumS.on {W W':World} {A B S:Nat} (h:NumS W A B S) (hb:Below W.heap.size W W'):NumS W' A B S :=
 ⟨Nat.lt_of_lt_of_le h.lA hb.size,Nat.lt_of_lt_of_le h.lB hb.size,(hb.cell (p:=⟨A,0,none⟩) h.lA).trans h.cA,(hb.cell (p:=⟨B,0,none⟩) h.lB).trans h.cB⟩
theorem Tryd.enterNumber (vals:Array Value) (w:World):(callFunc 44 vals).run Tryd.prog w=.ok (.enter 44 vals) w:=by kernel_rfl
def NumC (S A B:Nat) (x:Ex):Prop:=∀ (w:World) (cs:List Value),ExM w x cs→NumS w A B S→Calls Tryd.prog 44 #[.agg cs.toArray,.pointer (some ⟨A,0,none⟩),.pointer (some ⟨B,0,none⟩)] w fun e w'=>(∃ cs':List Value,e=.returned (.agg cs'.toArray)∧ExMP w' (fun g=>w.heap.size≤g) (x.rank S) cs')∧Below w.heap.size w w'
theorem NQ.start2 {w W X:World} {g:Nat} {r:RawE} {v:Value} {L:List Ex} {q:Option Addr} {len c:Nat} (hv:v=.slice q len c) (b:Below w.heap.size w W) (x1:XB W g r) (x2:XB W (g+1) rawZ) (gw:g=w.heap.size) (zw:g+2≤W.heap.size) (hb:Below W.heap.size W X)
  (o:OwnX X W.heap.size (fun k=>W.heap.size≤k) v L):NQ w (X.setCell ⟨g,8,none⟩ (.slice q len c)) g ⟨r.op,r.v,r.rel,r.col,r.n,r.s,q,len,c⟩ v L:=by
 have ho:Out (fun k=>k=g) X (X.setCell ⟨g,8,none⟩ (.slice q len c)):=Out.set ⟨g,8,none⟩ _ rfl
 have b1:=b.trans (hb.mono b.size)
 have o:=o.weaken (b':=g+2) (Q:=fun k=>g+2≤k) zw (fun k hk _=>Nat.le_trans zw hk)
 refine⟨b1.trans (ho.below b1.size (fun k hk=>by rw[hk];omega)),(x1.on hb).cell8 q len c,(x2.on hb).out ho (by omega),gw,o.outs ho (fun k hk e=>?_) (fun k hk e=>?_)⟩
 ·have:=(o.lt k e).1;omega
 ·omega
theorem wrap_pows:∀ R:Fin 16,IntKind.i64.wrap ((2:Int) ^ R.val)=((2 ^ R.val:Nat):Int)∧IntKind.i64.wrap (((2 ^ R.val:Nat):Int) - 1)=((2 ^ R.val - 1:Nat):Int)∧2 ^ R.val - 1<65536:=by decide
theorem wrap_u:∀ k:Fin 16,IntKind.u64.wrap (k.val:Int)=(k.val:Int):=by decide
theorem num_arg {S R:Nat} (hS:S<16) (hR:R<16):IntKind.u64.wrap (bits .and .i64 (S:Int) (IntKind.i64.wrap (IntKind.i64.wrap (2 ^ R) - 1)))=((S &&& (2 ^ R - 1):Nat):Int):=by
 obtain⟨h1,h2,h3⟩:=wrap_pows ⟨R,hR⟩
 have h4:=(ranks_all ⟨S,hS⟩ ⟨R,hR⟩).2
 rw[h1,h2,bits_and_nat (by omega) h3]
 exact wrap_u ⟨_,h4⟩
set_option maxHeartbeats 8000000 in
theorem numC_mk (S A B:Nat) (hS:S<16) (op:Int) (v:Val) (rel col n:Int) (s:ByteArray) (l:List Ex) (hh:headOk op v rel col n s l.length=true) (IH:∀ y∈l,NumC S A B y):NumC S A B (.mk op v rel col n s l):=by
 intro w cs hx hN
 have HI:=zH IH
 have HNS:=zH hN
 have hlm:=head_two hh
 have hrel:0≤rel∧rel≤15:=by
  have h:=(head_shape hh).2
  rcases h with ⟨-,h,-⟩ |⟨h2,-⟩ |⟨-,-,h,-⟩ |⟨-,-,-,h,-⟩
  ·omega
  ·exact rel_ok hh h2
  ·omega
  ·omega
 have HRK:=zH (show (Ex.mk op v rel col n s l).rank S=.mk op v (rkN S rel.toNat:Int) col n s (l.map (Ex.rank S)) by
  rw[Ex.rank,rankL_map]
  by_cases h2:op=2
  ·rw[if_pos h2]
  ·rw[if_neg h2]
   have h0:rel=0:=by
    have h:=(head_shape hh).2
    rcases h with ⟨-,h,-⟩ |⟨h2',-⟩ |⟨-,-,h,-⟩ |⟨-,-,-,h,-⟩
    ·exact h
    ·exact absurd h2' h2
    ·exact h
    ·exact h
   rw[h0];rfl)
 rw[ExM.iff] at hx
 obtain⟨hv,q,c,rfl,-,hl⟩:=hx
 have HV:=zH hv
 have HL:=zH hl
 obtain⟨len,hlen⟩:∃ len,len=l.length:=⟨_,rfl⟩
 rw[← hlen] at hlm ⊢
 have HLEN:=zH hlen
 obtain⟨R,hR⟩:∃ R:Nat,rel=R:=⟨rel.toNat,by omega⟩
 subst hR
 clear hv hl IH hlen hN hh
 obtain⟨W1,hW1⟩:∃ W,W=w.alloc (.cells (exCells op v R col n s q len c).toArray 26):=⟨_,rfl⟩
 have E0:XB W1 w.heap.size ⟨op,v,R,col,n,s,q,len,c⟩:=by rw[hW1];exact XB.new w ⟨op,v,R,col,n,s,q,len,c⟩ _
 have z1:W1.heap.size=w.heap.size+1:=by rw[hW1];simp
 obtain⟨W,hW⟩:∃ W,W=W1.alloc (.cells rawZ.cells.toArray 26):=⟨_,rfl⟩
 have b1:Below W1.heap.size W1 W:=by rw[hW];(repeat (first | exact ext_refl _ | assumption |(refine ext_alloc ?_ _) |(refine ext_drewN ?_ _) | refine ext_drew ?_ |(refine ext_set (by first |(simp;done) |(simp;omega)) _ ?_) |(refine ext_trans ?_ (by assumption))))
 have E1:=E0.on b1
 have E2:XB W (w.heap.size+1) rawZ:=by rw[hW,← z1];exact XB.new W1 rawZ _
 have b:Below w.heap.size w W:=by rw[hW,hW1];(repeat (first | exact ext_refl _ | assumption |(refine ext_alloc ?_ _) |(refine ext_drewN ?_ _) | refine ext_drew ?_ |(refine ext_set (by first |(simp;done) |(simp;omega)) _ ?_) |(refine ext_trans ?_ (by assumption))))
 have z2:W.heap.size=w.heap.size+2:=by rw[hW];simp[z1]
 have HWW:=zH (show W=(w.alloc (.cells (exCells op v R col n s q len c).toArray 26)).alloc (.cells rawZ.cells.toArray 26) by rw[hW,hW1])
 clear hW hW1 E0 z1 b1
 go_enter Tryd.func44,Tryd.ntmps44
 go_upto_region 1 with fail
 change Code.wp _ _ _ _ ((w.alloc (.cells (exCells op v R col n s q len c).toArray 26)).alloc (.cells rawZ.cells.toArray 26))
 rw[← HWW.out]
 clear HWW
 obtain⟨g,hg⟩:∃ g,g=w.heap.size:=⟨_,rfl⟩
 have HGW:=zH hg
 rw[← hg] at E1 E2 z2 ⊢
 have HB:=zH b
 have HE1:=zH E1
 have HE2:=zH E2
 have HZ2:=zH z2
 have NW:=HNS.out.on b
 clear hg b z2 E2
 have lt:=E1.lt
 have c4:=E1.c 4 _ rfl
 have cA:=NW.cA
 have lA:=NW.lA
 clear E1
 simp only at c4
 have r4:=fun (x:After W)=>(x.cell g 4 lt).trans c4
 have rA:=fun (x:After W)=>(x.cell A 0 lA).trans cA
 have hfin:=ranks_all ⟨S,hS⟩ ⟨R,by omega⟩
 have hea:=num_arg hS (show R<16 by omega)
 obtain⟨hf1,hf2⟩:=hfin
 simp only at hf1 hf2
 obtain⟨M,hM⟩:∃ M,M=S &&& (2 ^ R - 1):=⟨_,rfl⟩
 rw[← hM] at hea hf1 hf2
 have HON:=zH (fun (x:After W)=>calls_after (ones_any M hf2 x.W))
 have HEA:=zH hea
 rw[hf1] at HON
 obtain⟨RK,hRK⟩:∃ K,K=rkN S R:=⟨_,rfl⟩
 rw[← hRK] at HON
 have HRR:=zH hRK
 clear hM hf1 hf2 hea hRK
 have is:=After.some W
 refine wp_region_after_tail 9 (by kernel_rfl) (by kernel_rfl) ?_
 simp only[List.take_succ_cons,List.take_zero,List.drop_succ_cons,List.drop_zero]
 repeat (quiet_step (fail))
 rw[HEA.out]
 repeat (quiet_step ((go_at_call 45;with_reducible exact HON.out _)))
 refine wpQuiet_nil ?_
 intro Wq hw
 have hbq:Below W.heap.size W Wq:=by obtain⟨x,rfl⟩:=hw;exact x.below
 have HXq:=zH (HE1.out.on hbq)
 have HYq:=zH (HE2.out.on hbq)
 have HBq:=zH (HB.out.trans (hbq.mono HB.out.size))
 have HNq:=zH (NW.on hbq)
 have HZq:=zH (show g+2≤Wq.heap.size by have h1:=HZ2.out;have h2:=hbq.size;omega)
 have ltq:=HXq.out.lt
 have fq:=HXq.out.fz
 have c4q:=HXq.out.c 4 _ rfl
 simp only at c4q
 clear is hw hbq r4 rA lt c4 cA lA HON HEA HE1 HE2 HB HZ2 NW
 go_upto_region 2 with fail
 have ho4:Out (fun k=>k=g) Wq (Wq.setCell ⟨g,4,none⟩ (.int .i64 (RK:Int))):=Out.set ⟨g,4,none⟩ _ rfl
 have hX4:=XB.set1 (k:=4) (u:=.int .i64 (RK:Int)) (r':=⟨op,v,RK,col,n,s,q,len,c⟩) HXq.out (by decide) rfl
 obtain⟨N1,hN1⟩:∃ N,N=Wq.setCell ⟨g,4,none⟩ (.int .i64 (RK:Int)):=⟨_,rfl⟩
 rw[← hN1] at ho4 hX4 ⊢
 have HE1:=zH hX4
 have HE2:=zH (HYq.out.out ho4 (by omega))
 have HB:=zH (HBq.out.trans (ho4.below HBq.out.size (fun k hk=>by rw[hk];have:=HGW.out;omega)))
 have HZ:=zH (show g+2≤N1.heap.size from Nat.le_trans HZq.out ho4.size)
 have HNS1:=zH (HNS.out.on HB.out)
 clear hN1 ho4 HXq HYq HBq HNq HZq ltq fq c4q hX4
 have lt:=HE1.out.lt
 have c8:=HE1.out.c 8 _ rfl
 have cB:=HNS1.out.cB
 have lB:=HNS1.out.lB
 simp only at c8
 have HC:Calls Tryd.prog 38 #[.slice q len c,.func (.func 44) #[] #[.pointer (some ⟨A,0,none⟩),.pointer (some ⟨B,0,none⟩)]] N1 fun e w'=>(∃ ql cl,e=.returned (.slice ql len cl)∧OwnX w' N1.heap.size (fun k=>N1.heap.size≤k) (.slice ql len cl) (l.map (Ex.rank S)))∧Below N1.heap.size N1 w':=by
  have h:=changed_any 44 [.pointer (some ⟨A,0,none⟩),.pointer (some ⟨B,0,none⟩)] (Ex.rank S) l q c N1 (ExL.ext HB.out _ _ _ HL.out) (by rw[← HLEN.out];omega) (fun y hy W' cs hb hM=>HI.out y hy W' cs hM (HNS1.out.on hb)) Tryd.enterNumber
  rw[show l.length=len from HLEN.out.symm] at h
  refine h.mono ?_
  rintro e W' ⟨⟨vl,rfl,hO⟩,hb⟩
  obtain⟨ql,cl,rfl,-,-,-⟩:=hO.toL
  rw[List.length_map,show l.length=len from HLEN.out.symm] at hO ⊢
  exact⟨⟨ql,cl,rfl,hO⟩,hb⟩
 have HC:=zH HC
 go_upto_region 3 with (go_at_call 38;(refine HC.out.mono ?_;rintro e X ⟨⟨ql,cl,rfl,hO⟩,hbX⟩;have HO:=zH hO;have HBX:=zH hbX;have HE1X:=HE1.out.on hbX;have hgX:=HE1X.lt;have fgX:=HE1X.fz;have e8:=HE1X.c 8 _ rfl;simp only at e8;clear hO hbX HE1X lt c8 cB lB))
 have hQ:=NQ.start2 rfl HB.out HE1.out HE2.out HGW.out HZ.out HBX.out HO.out
 simp only at hQ
 obtain⟨N,hN⟩:∃ N,N=X.setCell ⟨g,8,none⟩ (.slice ql len cl):=⟨_,rfl⟩
 rw[← hN] at hQ ⊢
 have HQ:=zH hQ
 clear hN hgX fgX e8 HO HBX HC HE1 HE2 HB HZ HI HNS1
 obtain⟨lt,cc,fz⟩:=hQ.x1
 have c0:=cc 0 _ rfl
 have c1:=cc 1 _ rfl
 have c2:=cc 2 _ rfl
 have c3:=cc 3 _ rfl
 have c4:=cc 4 _ rfl
 have c5:=cc 5 _ rfl
 have c6:=cc 6 _ rfl
 have c7:=cc 7 _ rfl
 have c8:=cc 8 _ rfl
 simp only at c0 c1 c2 c3 c4 c5 c6 c7 c8
 clear cc hQ
 obtain⟨ltR,cR,fR⟩:=HQ.out.x2
 have d0:=cR 0 _ rfl
 have d1:=cR 1 _ rfl
 have d2:=cR 2 _ rfl
 have d3:=cR 3 _ rfl
 have d4:=cR 4 _ rfl
 have d5:=cR 5 _ rfl
 have d6:=cR 6 _ rfl
 have d7:=cR 7 _ rfl
 have d8:=cR 8 _ rfl
 clear cR
 go_wp2_with fail
 change bodyPost _ _ _ _ _ (setE N (g+1) 0 ⟨op,v,RK,col,n,s,ql,len,cl⟩)
 obtain⟨hbQ,⟨-,cQ,-⟩,hP⟩:=HQ.out.done HV.out rfl (by rw[List.length_map];exact HLEN.out)
 obtain⟨Q,hQQ⟩:∃ Q,Q=setE N (g+1) 0 ⟨op,v,RK,col,n,s,ql,len,cl⟩:=⟨_,rfl⟩
 rw[← hQQ] at hbQ cQ hP
 rw[← hQQ]
 have q0:=cQ 0 _ rfl
 have q1:=cQ 1 _ rfl
 have q2:=cQ 2 _ rfl
 have q3:=cQ 3 _ rfl
 have q4:=cQ 4 _ rfl
 have q5:=cQ 5 _ rfl
 have q6:=cQ 6 _ rfl
 have q7:=cQ 7 _ rfl
 have q8:=cQ 8 _ rfl
 clear hQQ cQ
 simp only at q0 q1 q2 q3 q4 q5 q6 q7 q8
 refine bodyPost_ret (v:=.agg (exCells op v RK col n s ql len cl).toArray) (by simp[results,Tryd.results44,go_sem,q0,q1,q2,q3,q4,q5,q6,q7,q8]) rfl ⟨⟨_,rfl,?_⟩,hbQ⟩
 rw[HRK.out,show ((R:Int).toNat)=R from rfl,← HRR.out]
 exact hP
theorem numC_any (S A B:Nat) (hS:S<16):∀ (k:Nat) (x:Ex),x.deep≤k→x.okAll=true→NumC S A B x
 | 0,x,h,_=>absurd (deep_pos x) (by omega)
 | k+1,.mk op v rel col n s l,h,ho=>by
  rw[Ex.okAll,Bool.and_eq_true] at ho
  exact numC_mk S A B hS op v rel col n s l ho.1 fun y hy=>numC_any S A B hS k y (by rw[Ex.deep] at h;have:=deepL_of_mem hy;omega) (by obtain⟨i,hi,he⟩:=List.getElem_of_mem hy;exact okL_all ho.2 (i:=i) (by rw[List.getElem?_eq_getElem hi,he]))
end Go.Proofs.YtklgoajgchfmeaaDoor
