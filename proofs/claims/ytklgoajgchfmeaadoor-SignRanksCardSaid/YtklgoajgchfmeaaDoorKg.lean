/- A part of the proof. -/
import Derived.Test.YtklgoajgchfmeaaDoorKb
import Derived.Deep.RegionWith
import Derived.Deep.Quiet
import Derived.Deep.QuietTactic
import Derived.BigQuiet
import Derived.Laws.BytesString
import Derived.ProofKit
import Derived.Lib.SmallJoins
import Derived.Deep.Slices
import Derived.Deep.Strs
import Derived.SizedLaws
import Derived.Test.YtklgoajgchfmeaaDoorKd
import Derived.Test.YtklgoajgchfmeaaDoorDvC
import Derived.StillTail
namespace Go.Proofs.YtklgoajgchfmeaaDoor
open Go.Lib
def dig (b:UInt8):Bool:=decide (48≤b.toNat) && decide (b.toNat≤57)
def Stops (r:Bs):Prop:=∀ b t,r=b :: t→dig b=false
theorem Stops.cons {b:UInt8} {r:Bs} (h:dig b=false):Stops (b :: r):=fun _ _ e=>by cases e;exact h
theorem Stops.nil:Stops []:=fun _ _ e=>by cases e
def valOf (l:Bs):Nat:=l.foldl (fun a b=>a*10+(b.toNat - 48)) 0
theorem u8_nat {k:Nat} (h:k<256):(UInt8.ofNat k).toNat=k:=by
 first
  | exact UInt8.toNat_ofNat_of_lt' h
  |(simp[UInt8.toNat_ofNat'];omega)
  |(simp;omega)
theorem dig_of {d:Nat} (h:d<10):dig (UInt8.ofNat (48+d))=true:=by
 unfold dig
 rw[u8_nat (by omega),decide_eq_true (by omega),decide_eq_true (by omega)]
 rfl
theorem dec_dig (n:Nat):∀ b∈decDigits n,dig b=true:=by
 induction n using Nat.strongRecOn with
 | _ n ih =>
  intro b hb
  rw[decDigits] at hb
  split at hb
  ·rw[List.mem_singleton] at hb
   subst hb
   exact dig_of (by omega)
  ·rcases List.mem_append.1 hb with hb | hb
   ·exact ih (n / 10) (by omega) b hb
   ·rw[List.mem_singleton] at hb
    subst hb
    exact dig_of (by omega)
theorem dec_val (n:Nat):valOf (decDigits n)=n:=by
 induction n using Nat.strongRecOn with
 | _ n ih =>
  rw[decDigits]
  split
  ·simp only[valOf,List.foldl_cons,List.foldl_nil]
   rw[u8_nat (by omega)]
   omega
  ·have h:=ih (n / 10) (by omega)
   unfold valOf at h ⊢
   rw[List.foldl_append,h]
   simp only[List.foldl_cons,List.foldl_nil]
   rw[u8_nat (by omega)]
   omega
theorem dec_span {l r:Bs} (h:∀ b∈l,dig b=true) (hr:Stops r):(l++r).takeWhile dig=l:=by
 induction l with
 | nil =>
  cases r with
  | nil=>rfl
  | cons b t=>rw[List.nil_append,List.takeWhile_cons,hr b t rfl];rfl
 | cons a l ih =>
  rw[List.cons_append,List.takeWhile_cons,h a (by simp),if_pos rfl,ih fun b hb=>h b (by simp[hb])]
theorem dec_cut {a b:Nat} {r t:Bs} (h:decDigits a++r=decDigits b++t) (hr:Stops r) (ht:Stops t):a=b∧r=t:=by
 have e1:=dec_span (dec_dig a) hr
 have e2:=dec_span (dec_dig b) ht
 rw[h,e2] at e1
 have e3:a=b:=by rw[← dec_val a,← dec_val b,e1]
 subst e3
 exact⟨rfl,List.append_cancel_left h⟩
theorem dec_first (n:Nat):∃ b t,decDigits n=b :: t∧dig b=true:=by
 have hd:=dec_dig n
 cases hl:decDigits n with
 | nil =>
  have h:=decDigits_length n
  rw[hl] at h
  have:=nDigits_pos n
  simp at h
  omega
 | cons b t=>exact⟨b,t,rfl,hd b (by rw[hl];simp)⟩
theorem itoa_cut {a b:Int} {r t:Bs} (h:itoa a++r=itoa b++t) (hr:Stops r) (ht:Stops t):a=b∧r=t:=by
 have d45:dig 45=false:=by decide
 unfold itoa at h
 split at h
 ·split at h
  ·simp only[List.cons_append,List.cons.injEq,true_and] at h
   obtain⟨e,e2⟩:=dec_cut h hr ht
   exact⟨by omega,e2⟩
  ·obtain⟨x,u,e,hx⟩:=dec_first b.toNat
   rw[e] at h
   simp only[List.cons_append,List.cons.injEq] at h
   rw[← h.1,d45] at hx
   cases hx
 ·split at h
  ·obtain⟨x,u,e,hx⟩:=dec_first a.toNat
   rw[e] at h
   simp only[List.cons_append,List.cons.injEq] at h
   rw[h.1,d45] at hx
   cases hx
  ·obtain⟨e,e2⟩:=dec_cut h hr ht
   exact⟨by omega,e2⟩
theorem zero_shape {v:Val} (h:isZeroV v=true):v.k=0∧v.n=0∧v.s.toList=[]:=by
 simpa [isZeroV,and_assoc] using h
theorem head_shape {op:Int} {v:Val} {rel col n:Int} {s:ByteArray} {len:Nat} (h:headOk op v rel col n s len=true):s.toList=[] ∧
  ((op=1∧rel=0∧col=0∧n=0∧len=0∧v.right=true)∨(op=2∧isZeroV v=true∧n=0∧len=0)∨(op=3∧isZeroV v=true∧rel=0∧col=0∧len=0)∨(4≤op∧op≤18∧isZeroV v=true∧rel=0∧col=0∧n=0∧(len:Int)=wantsOf op)):=by
 unfold headOk at h
 simp only[Bool.and_eq_true,beq_iff_eq,Bool.or_eq_true] at h
 obtain⟨⟨⟨⟨⟨h1,h2⟩,h3⟩,h4⟩,h5⟩,h6⟩:=h
 refine⟨h2,?_⟩
 have hr:1≤op∧op≤18:=by
  unfold wantsOf at h1
  split at h1 <;> omega
 by_cases e1:op=1
 ·subst e1
  simp[wantsOf] at h1 h5 h6
  exact .inl ⟨rfl,h5.1,h5.2,h6,by omega,h3⟩
 ·have hz:isZeroV v=true:=h4.resolve_left e1
  by_cases e2:op=2
  ·subst e2
   simp[wantsOf] at h1 h6
   exact .inr (.inl ⟨rfl,hz,h6,by omega⟩)
  ·rw[if_neg e2] at h5
   simp only[Bool.and_eq_true,beq_iff_eq] at h5
   by_cases e3:op=3
   ·subst e3
    simp[wantsOf] at h1
    exact .inr (.inr (.inl ⟨rfl,hz,h5.1,h5.2,by omega⟩))
   ·rw[if_neg e3,beq_iff_eq] at h6
    exact .inr (.inr (.inr ⟨by omega,hr.2,hz,h5.1,h5.2,h6,h1.symm⟩))
def printV (v:Val):Bs:=if v.k=0 then [78] else if v.k=1 then 73 :: itoa v.n else if v.k=2 then 66 :: itoa v.n else 84 :: itoa v.s.size++[58]++v.s.data.toList
theorem right_shape {v:Val} (h:v.right=true):(v.k=0∧v.n=0∧v.s.toList=[])∨(v.k=1∧v.s.toList=[])∨(v.k=2∧v.s.toList=[])∨(v.k=3∧v.n=0):=by
 unfold Val.right at h
 split at h
 ·simp at h;exact .inl ⟨‹_›,h.1,h.2⟩
 ·split at h
  ·simp at h;exact .inr (.inl ⟨‹_›,h⟩)
  ·split at h
   ·simp at h;exact .inr (.inr (.inl ⟨‹_›,h.2⟩))
   ·split at h
    ·simp at h;exact .inr (.inr (.inr ⟨‹_›,h.1⟩))
    ·cases h
theorem toList_data (s:ByteArray):s.toList=s.data.toList:=ByteArray.toList_eq s
theorem printV_cut {v u:Val} {r t:Bs} (hv:v.right=true) (hu:u.right=true) (h:printV v++r=printV u++t) (hr:Stops r) (ht:Stops t):(v.k=u.k∧v.n=u.n∧v.s.toList=u.s.toList)∧r=t:=by
 unfold printV at h
 rcases right_shape hv with ⟨a1,a2,a3⟩ |⟨a1,a2⟩ |⟨a1,a2⟩ |⟨a1,a2⟩
 all_goals rcases right_shape hu with ⟨b1,b2,b3⟩ |⟨b1,b2⟩ |⟨b1,b2⟩ |⟨b1,b2⟩
 all_goals rw[a1,b1] at h
 all_goals simp at h
 ·exact⟨⟨by rw[a1,b1],by rw[a2,b2],by rw[a3,b3]⟩,h⟩
 ·obtain⟨e,e2⟩:=itoa_cut h hr ht
  exact⟨⟨by rw[a1,b1],e,by rw[a2,b2]⟩,e2⟩
 ·obtain⟨e,e2⟩:=itoa_cut h hr ht
  exact⟨⟨by rw[a1,b1],e,by rw[a2,b2]⟩,e2⟩
 ·obtain⟨e,e2⟩:=itoa_cut h (Stops.cons (by decide)) (Stops.cons (by decide))
  simp only[List.cons.injEq,true_and] at e2
  have hl:v.s.data.toList.length=u.s.data.toList.length:=by simp only[Array.length_toList];exact Int.ofNat.inj e
  obtain⟨e3,e4⟩:=List.append_inj e2 hl
  exact⟨⟨by rw[a1,b1],by rw[a2,b2],by rw[toList_data,toList_data,e3]⟩,e4⟩
theorem print_leaf1 {v:Val} {rel col n:Int} {s:ByteArray} {l:List Ex}:(Ex.mk 1 v rel col n s l).print=printV v:=by rw[Ex.print,if_pos rfl];rfl
theorem print_op {op:Int} {v:Val} {rel col n:Int} {s:ByteArray} {l:List Ex} (h:4≤op):(Ex.mk op v rel col n s l).print=40 :: itoa op++printL l++[41]:=by rw[Ex.print,if_neg (by omega),if_neg (by omega),if_neg (by omega)]
theorem printV_first {v:Val}:∃ b t,printV v=b :: t∧b≠82∧b≠80∧b≠40:=by
 unfold printV
 split
 ·exact⟨78,[],rfl,by decide,by decide,by decide⟩
 ·split
  ·exact⟨73,_,rfl,by decide,by decide,by decide⟩
  ·split
   ·exact⟨66,_,rfl,by decide,by decide,by decide⟩
   ·exact⟨84,_,rfl,by decide,by decide,by decide⟩
theorem printL_first {l:List Ex} {r:Bs} (hl:l≠[]):∃ t,printL l++r=32 :: t:=by
 cases l with
 | nil=>exact absurd rfl hl
 | cons x l=>exact⟨x.print++(printL l++r),by rw[printL];simp⟩
theorem stops_list {l:List Ex} {r:Bs}:Stops (printL l++41 :: r):=by
 cases l with
 | nil=>rw[printL];exact Stops.cons (by decide)
 | cons x l =>
  obtain⟨t,e⟩:=printL_first (l:=x :: l) (r:=41 :: r) (by simp)
  rw[e]
  exact Stops.cons (by decide)
theorem stops_list' {l:List Ex} {r:Bs} (hr:Stops r):Stops (printL l++r):=by
 cases l with
 | nil=>rw[printL];exact hr
 | cons x l =>
  obtain⟨t,e⟩:=printL_first (l:=x :: l) (r:=r) (by simp)
  rw[e]
  exact Stops.cons (by decide)
mutual
theorem print_cut:∀ (x y:Ex) (r t:Bs),x.okAll=true→y.okAll=true→x.print++r=y.print++t→Stops r→Stops t→sameE x y=true∧r=t
 | .mk op v rel col n s l,.mk op' v' rel' col' n' s' l',r,t,hx,hy,h,hr,ht=>by
  rw[Ex.okAll,Bool.and_eq_true] at hx hy
  obtain⟨hx,hxl⟩:=hx
  obtain⟨hy,hyl⟩:=hy
  have sx:=(head_shape hx).2
  have sy:=(head_shape hy).2
  rcases sx with ⟨rfl,rfl,rfl,rfl,x4,x5⟩ |⟨rfl,xv,rfl,x4⟩ |⟨rfl,xv,rfl,rfl,x4⟩ |⟨xa,xb,xv,rfl,rfl,rfl,x4⟩
  ·rw[print_leaf1] at h
   rcases sy with ⟨rfl,rfl,rfl,rfl,y4,y5⟩ |⟨rfl,yv,rfl,y4⟩ |⟨rfl,yv,rfl,rfl,y4⟩ |⟨ya,yb,yv,rfl,rfl,rfl,y4⟩
   ·rw[print_leaf1] at h
    obtain⟨⟨e1,e2,e3⟩,e4⟩:=printV_cut x5 y5 h hr ht
    rw[List.length_eq_zero_iff] at x4 y4
    subst x4 y4
    refine⟨?_,e4⟩
    rw[sameE,sameL,e1,e2,e3]
    simp
   ·obtain⟨b,u,e,n1,n2,n3⟩:=printV_first (v:=v)
    rw[e,Ex.print,if_neg (by decide),if_pos rfl] at h
    simp at h
    exact absurd h.1 n1
   ·obtain⟨b,u,e,n1,n2,n3⟩:=printV_first (v:=v)
    rw[e,Ex.print,if_neg (by decide),if_neg (by decide),if_pos rfl] at h
    simp at h
    exact absurd h.1 n2
   ·obtain⟨b,u,e,n1,n2,n3⟩:=printV_first (v:=v)
    rw[e,print_op ya] at h
    simp at h
    exact absurd h.1 n3
  ·rw[Ex.print,if_neg (by decide),if_pos rfl] at h
   rcases sy with ⟨rfl,rfl,rfl,rfl,y4,y5⟩ |⟨rfl,yv,rfl,y4⟩ |⟨rfl,yv,rfl,rfl,y4⟩ |⟨ya,yb,yv,rfl,rfl,rfl,y4⟩
   ·obtain⟨b,u,e,n1,n2,n3⟩:=printV_first (v:=v')
    rw[print_leaf1,e] at h
    simp at h
    exact absurd h.1.symm n1
   ·rw[Ex.print,if_neg (by decide),if_pos rfl] at h
    simp at h
    obtain⟨e1,e2⟩:=itoa_cut h (Stops.cons (by decide)) (Stops.cons (by decide))
    simp only[List.cons.injEq,true_and] at e2
    obtain⟨e3,e4⟩:=itoa_cut e2 hr ht
    rw[List.length_eq_zero_iff] at x4 y4
    subst x4 y4 e1 e3
    refine⟨?_,e4⟩
    obtain⟨z1,z2,z3⟩:=zero_shape xv
    obtain⟨w1,w2,w3⟩:=zero_shape yv
    rw[sameE,sameL,z1,z2,z3,w1,w2,w3]
    simp
   ·rw[Ex.print,if_neg (by decide),if_neg (by decide),if_pos rfl] at h
    simp at h
   ·rw[print_op ya] at h
    simp at h
  ·rw[Ex.print,if_neg (by decide),if_neg (by decide),if_pos rfl] at h
   rcases sy with ⟨rfl,rfl,rfl,rfl,y4,y5⟩ |⟨rfl,yv,rfl,y4⟩ |⟨rfl,yv,rfl,rfl,y4⟩ |⟨ya,yb,yv,rfl,rfl,rfl,y4⟩
   ·obtain⟨b,u,e,n1,n2,n3⟩:=printV_first (v:=v')
    rw[print_leaf1,e] at h
    simp at h
    exact absurd h.1.symm n2
   ·rw[Ex.print,if_neg (by decide),if_pos rfl] at h
    simp at h
   ·rw[Ex.print,if_neg (by decide),if_neg (by decide),if_pos rfl] at h
    simp at h
    obtain⟨e3,e4⟩:=itoa_cut h hr ht
    rw[List.length_eq_zero_iff] at x4 y4
    subst x4 y4 e3
    refine⟨?_,e4⟩
    obtain⟨z1,z2,z3⟩:=zero_shape xv
    obtain⟨w1,w2,w3⟩:=zero_shape yv
    rw[sameE,sameL,z1,z2,z3,w1,w2,w3]
    simp
   ·rw[print_op ya] at h
    simp at h
  ·rw[print_op xa] at h
   rcases sy with ⟨rfl,rfl,rfl,rfl,y4,y5⟩ |⟨rfl,yv,rfl,y4⟩ |⟨rfl,yv,rfl,rfl,y4⟩ |⟨ya,yb,yv,rfl,rfl,rfl,y4⟩
   ·obtain⟨b,u,e,n1,n2,n3⟩:=printV_first (v:=v')
    rw[print_leaf1,e] at h
    simp at h
    exact absurd h.1.symm n3
   ·rw[Ex.print,if_neg (by decide),if_pos rfl] at h
    simp at h
   ·rw[Ex.print,if_neg (by decide),if_neg (by decide),if_pos rfl] at h
    simp at h
   ·rw[print_op ya] at h
    simp at h
    obtain⟨e1,e2⟩:=itoa_cut h stops_list stops_list
    subst e1
    have hlen:l.length=l'.length:=by omega
    obtain⟨e3,e4⟩:=printL_cut l l' _ _ hxl hyl hlen e2 (Stops.cons (by decide)) (Stops.cons (by decide))
    simp only[List.cons.injEq,true_and] at e4
    refine⟨?_,e4⟩
    obtain⟨z1,z2,z3⟩:=zero_shape xv
    obtain⟨w1,w2,w3⟩:=zero_shape yv
    rw[sameE,e3,z1,z2,z3,w1,w2,w3]
    simp
theorem printL_cut:∀ (l m:List Ex) (r t:Bs),okL l=true→okL m=true→l.length=m.length→printL l++r=printL m++t→Stops r→Stops t→sameL l m=true∧r=t
 | [],[],r,t,_,_,_,h,_,_=>by rw[printL] at h;exact⟨by rw[sameL],by simpa using h⟩
 | x :: l,y :: m,r,t,hx,hy,hl,h,hr,ht=>by
  rw[okL,Bool.and_eq_true] at hx hy
  rw[printL,printL] at h
  simp only[List.cons_append,List.cons.injEq,true_and,List.append_assoc] at h
  obtain⟨e1,e2⟩:=print_cut x y _ _ hx.1 hy.1 h (stops_list' hr) (stops_list' ht)
  obtain⟨e3,e4⟩:=printL_cut l m r t hx.2 hy.2 (by simpa using hl) e2 hr ht
  exact⟨by rw[sameL,e1,e3];rfl,e4⟩
 | [],_ :: _,_,_,_,_,hl,_,_,_=>absurd hl (by simp)
 | _ :: _,[],_,_,_,_,hl,_,_,_=>absurd hl (by simp)
end
mutual
theorem print_same:∀ (x y:Ex),sameE x y=true→x.print=y.print
 | .mk op v rel col n s l,.mk op' v' rel' col' n' s' l',h=>by
  rw[sameE] at h
  simp only[Bool.and_eq_true,beq_iff_eq] at h
  obtain⟨⟨⟨⟨⟨rfl,⟨hk,hn⟩,hs⟩,rfl⟩,rfl⟩,rfl⟩,hl⟩:=h
  obtain⟨k,n0,s0⟩:=v
  obtain⟨k',n0',s0'⟩:=v'
  simp only at hk hn hs
  have hs':s0=s0':=ba_eq.2 hs
  subst hk hn hs'
  rw[Ex.print,Ex.print,printL_same l l' hl]
theorem printL_same:∀ (l m:List Ex),sameL l m=true→printL l=printL m
 | [],[],_=>rfl
 | x :: l,y :: m,h=>by
  rw[sameL,Bool.and_eq_true] at h
  rw[printL,printL,print_same x y h.1,printL_same l m h.2]
 | [],_ :: _,h=>by simp[sameL] at h
 | _ :: _,[],h=>by simp[sameL] at h
end
theorem print_iff {x y:Ex} (hx:x.okAll=true) (hy:y.okAll=true):x.print=y.print↔sameE x y=true :=
 ⟨fun h=>(print_cut x y [] [] hx hy (by rw[h]) Stops.nil Stops.nil).1,print_same x y⟩
open Go.RowKit
theorem bl_trans:∀ a b c:List UInt8,Op.bytesLess a b=true→Op.bytesLess b c=true→Op.bytesLess a c=true
 | _,[],_,h,_=>by simp[Op.bytesLess] at h
 | _,_ :: _,[],_,h=>by simp[Op.bytesLess] at h
 | [],_ :: _,_ :: _,_,_=>rfl
 | a :: x,b :: y,c :: z,h,h'=>by
  simp only[Op.bytesLess,Bool.or_eq_true,decide_eq_true_eq,Bool.and_eq_true,beq_iff_eq] at h h' ⊢
  rcases h with h |⟨rfl,h⟩
  ·rcases h' with h' |⟨rfl,_⟩
   ·exact .inl (UInt8.lt_trans h h')
   ·exact .inl h
  ·rcases h' with h' |⟨rfl,h'⟩
   ·exact .inl h'
   ·exact .inr ⟨rfl,bl_trans x y z h h'⟩
theorem bl_total:∀ a b:List UInt8,a≠b→Op.bytesLess a b=false→Op.bytesLess b a=true
 | [],[],h,_=>absurd rfl h
 | [],_ :: _,_,h=>by simp[Op.bytesLess] at h
 | _ :: _,[],_,_=>rfl
 | a :: x,b :: y,h,h'=>by
  simp only[Op.bytesLess,Bool.or_eq_false_iff,decide_eq_false_iff_not,Bool.and_eq_false_iff,beq_eq_false_iff_ne] at h'
  simp only[Op.bytesLess,Bool.or_eq_true,decide_eq_true_eq,Bool.and_eq_true,beq_iff_eq]
  by_cases e:a=b
  ·subst e
   refine .inr ⟨rfl,bl_total x y (fun e'=>h (by rw[e'])) ?_⟩
   rcases h'.2 with h2 | h2
   ·exact absurd rfl h2
   ·exact h2
  ·left
   have h1:=h'.1
   rw[UInt8.lt_iff_toNat_lt] at h1 ⊢
   have:a.toNat≠b.toNat:=fun e'=>e (UInt8.toNat_inj.1 e')
   omega
open Go.Lib
def commutes (op:Int):Bool:=op == 4 || op == 6 || op == 9 || op == 10 || op == 15 || op == 16
def ahead2:List Ex→Bool
 | [a,b]=>Op.bytesLess b.print a.print
 | _=>false
def fixE (op:Int) (v:Val) (rel col n:Int) (s:ByteArray) (l:List Ex):Ex :=
 if op=13 then .mk 11 v rel col n s l.reverse else if op=14 then .mk 12 v rel col n s l.reverse
 else if commutes op && ahead2 l then .mk op v rel col n s l.reverse else .mk op v rel col n s l
mutual
def Ex.norm:Ex→Ex
 | .mk op v rel col n s l=>fixE op v rel col n s (normL l)
def normL:List Ex→List Ex
 | []=>[]
 | x :: r=>x.norm :: normL r
end
theorem normL_map:∀ l:List Ex,normL l=l.map Ex.norm
 | []=>by rw[normL];rfl
 | x :: r=>by rw[normL,normL_map r];rfl
theorem okL_rev:∀ l:List Ex,okL l.reverse=okL l
 | []=>rfl
 | x :: r=>by rw[List.reverse_cons,okL_append,okL_rev r,okL,okL,okL,Bool.and_true,Bool.and_comm]
theorem deepL_rev:∀ l:List Ex,deepL l.reverse=deepL l
 | []=>rfl
 | x :: r=>by rw[List.reverse_cons,deepL_append,deepL_rev r,deepL,deepL,deepL];omega
theorem countL_rev:∀ l:List Ex,countL l.reverse=countL l
 | []=>rfl
 | x :: r=>by rw[List.reverse_cons,countL_append,countL_rev r,countL,countL,countL];omega
theorem tabsL_rev:∀ l:List Ex,tabsL l.reverse=tabsL l
 | []=>rfl
 | x :: r=>by rw[List.reverse_cons,tabsL_append,tabsL_rev r,tabsL,tabsL,tabsL,Nat.or_zero,Nat.or_comm]
theorem safeL_rev:∀ l:List Ex,safeL l.reverse=safeL l
 | []=>rfl
 | x :: r=>by rw[List.reverse_cons,safeL_append,safeL_rev r,safeL,safeL,safeL,Bool.and_true,Bool.and_comm]
theorem head_lt {v:Val} {rel col n:Int} {s:ByteArray} {len:Nat}:headOk 11 v rel col n s len=headOk 13 v rel col n s len:=by simp[headOk,wantsOf]
theorem head_le {v:Val} {rel col n:Int} {s:ByteArray} {len:Nat}:headOk 12 v rel col n s len=headOk 14 v rel col n s len:=by simp[headOk,wantsOf]
theorem fix_same (op:Int) (v:Val) (rel col n:Int) (s:ByteArray) (l:List Ex) :
  (fixE op v rel col n s l).okAll=(Ex.mk op v rel col n s l).okAll∧(fixE op v rel col n s l).deep=(Ex.mk op v rel col n s l).deep∧(fixE op v rel col n s l).count=(Ex.mk op v rel col n s l).count∧(fixE op v rel col n s l).tabs=(Ex.mk op v rel col n s l).tabs∧(fixE op v rel col n s l).safe=(Ex.mk op v rel col n s l).safe:=by
 unfold fixE
 split
 ·subst op
  refine⟨?_,?_,?_,?_,?_⟩
  ·rw[Ex.okAll,Ex.okAll,List.length_reverse,okL_rev,head_lt]
  ·rw[Ex.deep,Ex.deep,deepL_rev]
  ·rw[Ex.count,Ex.count,countL_rev]
  ·rw[Ex.tabs,Ex.tabs,tabsL_rev];rfl
  ·rw[Ex.safe,Ex.safe,safeL_rev];rfl
 ·split
  ·subst op
   refine⟨?_,?_,?_,?_,?_⟩
   ·rw[Ex.okAll,Ex.okAll,List.length_reverse,okL_rev,head_le]
   ·rw[Ex.deep,Ex.deep,deepL_rev]
   ·rw[Ex.count,Ex.count,countL_rev]
   ·rw[Ex.tabs,Ex.tabs,tabsL_rev];rfl
   ·rw[Ex.safe,Ex.safe,safeL_rev];rfl
  ·split
   ·refine⟨?_,?_,?_,?_,?_⟩
    ·rw[Ex.okAll,Ex.okAll,List.length_reverse,okL_rev]
    ·rw[Ex.deep,Ex.deep,deepL_rev]
    ·rw[Ex.count,Ex.count,countL_rev]
    ·rw[Ex.tabs,Ex.tabs,tabsL_rev]
    ·rw[Ex.safe,Ex.safe,safeL_rev]
   ·exact⟨rfl,rfl,rfl,rfl,rfl⟩
mutual
theorem norm_same:∀ x:Ex,x.norm.okAll=x.okAll∧x.norm.deep=x.deep∧x.norm.count=x.count∧x.norm.tabs=x.tabs∧x.norm.safe=x.safe
 | .mk op v rel col n s l=>by
  obtain⟨a0,a1,a2,a3,a4,a5⟩:=normL_same l
  obtain⟨h1,h2,h3,h4,h5⟩:=fix_same op v rel col n s (normL l)
  rw[Ex.norm]
  refine⟨h1.trans ?_,h2.trans ?_,h3.trans ?_,h4.trans ?_,h5.trans ?_⟩
  ·rw[Ex.okAll,Ex.okAll,a0,a1]
  ·rw[Ex.deep,Ex.deep,a2]
  ·rw[Ex.count,Ex.count,a3]
  ·rw[Ex.tabs,Ex.tabs,a4]
  ·rw[Ex.safe,Ex.safe,a5]
theorem normL_same:∀ l:List Ex,(normL l).length=l.length∧okL (normL l)=okL l∧deepL (normL l)=deepL l∧countL (normL l)=countL l∧tabsL (normL l)=tabsL l∧safeL (normL l)=safeL l
 | []=>by rw[normL];exact⟨rfl,rfl,rfl,rfl,rfl,rfl⟩
 | x :: r=>by
  obtain⟨h1,h2,h3,h4,h5⟩:=norm_same x
  obtain⟨a0,a1,a2,a3,a4,a5⟩:=normL_same r
  rw[normL]
  refine⟨by simp[a0],?_,?_,?_,?_,?_⟩
  ·rw[okL,okL,h1,a1]
  ·rw[deepL,deepL,h2,a2]
  ·rw[countL,countL,h3,a3]
  ·rw[tabsL,tabsL,h4,a4]
  ·rw[safeL,safeL,h5,a5]
end
theorem right_iff8 {x:Ex}:rightE x=true↔x.okAll=true∧x.deep≤20∧x.count≤200:=by
 unfold rightE sizesE
 split
 ·rename_i h;exact⟨fun _=>h,fun _=>rfl⟩
 ·rename_i h;exact⟨fun e=>(by cases e),fun e=>absurd e h⟩
theorem right_of8 {x y:Ex} (h1:x.okAll=y.okAll) (h2:x.deep=y.deep) (h3:x.count=y.count):rightE x=rightE y:=by
 rw[Bool.eq_iff_iff,right_iff8,right_iff8,h1,h2,h3]
theorem norm_right (x:Ex):rightE x.norm=rightE x:=right_of8 (norm_same x).1 (norm_same x).2.1 (norm_same x).2.2.1
mutual
theorem same_eq:∀ x y:Ex,x.okAll=true→y.okAll=true→sameE x y=true→x=y
 | .mk op v rel col n s l,.mk op' v' rel' col' n' s' l',hx,hy,h=>by
  rw[Ex.okAll,Bool.and_eq_true] at hx hy
  have e1:=(head_shape hx.1).1
  have e2:=(head_shape hy.1).1
  rw[sameE] at h
  simp only[Bool.and_eq_true,beq_iff_eq] at h
  obtain⟨⟨⟨⟨⟨rfl,⟨hk,hn⟩,hs⟩,rfl⟩,rfl⟩,rfl⟩,hl⟩:=h
  obtain⟨k,n0,s0⟩:=v
  obtain⟨k',n0',s0'⟩:=v'
  simp only at hk hn hs
  have hs':s0=s0':=ba_eq.2 hs
  have hs2:s=s':=ba_eq.2 (e1.trans e2.symm)
  subst hk hn hs' hs2
  rw[sameL_eq l l' hx.2 hy.2 hl]
theorem sameL_eq:∀ l m:List Ex,okL l=true→okL m=true→sameL l m=true→l=m
 | [],[],_,_,_=>rfl
 | x :: l,y :: m,hx,hy,h=>by
  rw[sameL,Bool.and_eq_true] at h
  rw[okL,Bool.and_eq_true] at hx hy
  rw[same_eq x y hx.1 hy.1 h.1,sameL_eq l m hx.2 hy.2 h.2]
 | [],_ :: _,_,_,h=>by simp[sameL] at h
 | _ :: _,[],_,_,h=>by simp[sameL] at h
end
theorem print_inj {x y:Ex} (hx:x.okAll=true) (hy:y.okAll=true) (h:x.print=y.print):x=y:=same_eq x y hx hy ((print_iff hx hy).1 h)
def insE (x:Ex):List Ex→List Ex
 | []=>[x]
 | y :: r=>if Op.bytesLess y.print x.print then y :: insE x r else if y.print=x.print then y :: r else x :: y :: r
def sortE (L:List Ex):List Ex:=L.foldl (fun K x=>insE x K) []
def ltE (a b:Ex):Prop:=Op.bytesLess a.print b.print=true
theorem ins_mem (x:Ex) (hx:x.okAll=true):∀ (K:List Ex),(∀ y∈K,y.okAll=true)→∀ z,z∈insE x K↔z=x∨z∈K
 | [],_,z=>by simp[insE]
 | y :: r,hK,z=>by
  rw[insE]
  split
  ·rw[List.mem_cons,ins_mem x hx r (fun y hy=>hK y (by simp[hy])) z,List.mem_cons]
   constructor
   ·rintro (h | h | h)
    ·exact .inr (.inl h)
    ·exact .inl h
    ·exact .inr (.inr h)
   ·rintro (h | h | h)
    ·exact .inr (.inl h)
    ·exact .inl h
    ·exact .inr (.inr h)
  ·split
   ·rename_i h
    have e:=print_inj (hK y (by simp)) hx h
    subst e
    simp
   ·simp
theorem ins_sorted (x:Ex):∀ (K:List Ex),K.Pairwise ltE→(insE x K).Pairwise ltE∧∀ z∈insE x K,z=x∨z∈K
 | [],_=>⟨by rw[insE];exact List.pairwise_singleton _ _,fun z hz=>by rw[insE] at hz;simpa using hz⟩
 | y :: r,h=>by
  rw[List.pairwise_cons] at h
  obtain⟨h1,h2⟩:=ins_sorted x r h.2
  rw[insE]
  split
  ·rename_i hl
   refine⟨List.pairwise_cons.2 ⟨fun z hz=>?_,h1⟩,fun z hz=>?_⟩
   ·rcases h2 z hz with rfl | h'
    ·exact hl
    ·exact h.1 z h'
   ·rcases List.mem_cons.1 hz with e | hz
    ·exact .inr (by simp[e])
    ·rcases h2 z hz with e | h
     ·exact .inl e
     ·exact .inr (by simp[h])
  ·rename_i hl
   split
   ·exact⟨List.pairwise_cons.2 h,fun z hz=>.inr hz⟩
   ·rename_i hne
    have hxy:ltE x y:=bl_total y.print x.print hne (by simpa using hl)
    refine⟨List.pairwise_cons.2 ⟨fun z hz=>?_,List.pairwise_cons.2 h⟩,fun z hz=>by simpa using hz⟩
    rcases List.mem_cons.1 hz with rfl | hz
    ·exact hxy
    ·exact bl_trans _ _ _ hxy (h.1 z hz)
theorem foldl_ins:∀ (L K:List Ex),(∀ y∈L,y.okAll=true)→(∀ y∈K,y.okAll=true)→K.Pairwise ltE→(L.foldl (fun K x=>insE x K) K).Pairwise ltE∧∀ z,z∈L.foldl (fun K x=>insE x K) K↔z∈L∨z∈K
 | [],K,_,_,h=>⟨h,fun z=>by simp⟩
 | x :: L,K,hL,hK,h=>by
  have hx:=hL x (by simp)
  have hm:=ins_mem x hx K hK
  obtain⟨h1,h2⟩:=foldl_ins L (insE x K) (fun y hy=>hL y (by simp[hy])) (fun y hy=>by
   rcases (hm y).1 hy with rfl | h
   ·exact hx
   ·exact hK y h) (ins_sorted x K h).1
  refine⟨h1,fun z=>?_⟩
  rw[List.foldl_cons,h2,hm,List.mem_cons]
  constructor
  ·rintro (h | h | h)
   ·exact .inl (.inr h)
   ·exact .inl (.inl h)
   ·exact .inr h
  ·rintro ((h | h) | h)
   ·exact .inr (.inl h)
   ·exact .inl h
   ·exact .inr (.inr h)
theorem sortE_is {L:List Ex} (h:∀ y∈L,y.okAll=true):(sortE L).Pairwise ltE∧∀ z,z∈sortE L↔z∈L:=by
 obtain⟨h1,h2⟩:=foldl_ins L [] h (by simp) List.Pairwise.nil
 exact⟨h1,fun z=>by rw[sortE,h2];simp⟩
theorem ins_len (x:Ex):∀ K:List Ex,(insE x K).length≤K.length+1
 | []=>by simp[insE]
 | y :: r=>by
  have:=ins_len x r
  rw[insE]
  split
  ·simp;omega
  ·split <;> simp
theorem foldl_len:∀ (L K:List Ex),(L.foldl (fun K x=>insE x K) K).length≤K.length+L.length
 | [],K=>by simp
 | x :: L,K=>by
  have h1:=foldl_len L (insE x K)
  have h2:=ins_len x K
  rw[List.foldl_cons,List.length_cons]
  omega
theorem sortE_len (L:List Ex):(sortE L).length≤L.length:=by have:=foldl_len L [];simp[sortE] at this ⊢;exact this
open Go.RowKit
structure After (G:World) where
 W:World
 below:Below G.heap.size G W
theorem After.some (G:World):Nonempty (After G):=⟨⟨G,Below.refl _ _⟩⟩
theorem After.cell {G:World} (x:After G) (b o:Nat) (h:b<G.heap.size):x.W.cell? ⟨b,o,none⟩=G.cell? ⟨b,o,none⟩:=x.below.cell (p:=⟨b,o,none⟩) h
theorem wp_region_after {P:Program} {id:Nat} {Q:Exit→Act→World→Prop} {a:Act} {w:World} {l:List Oper} (hm:P.follows .mixedOrders=true) (hB:Region.lexB .any l.toArray=true)
  (h:wpQuiet P l.toArray (fun w'=>∃ x:After w,w'=x.W) (fun a'=>∀ w',(∃ x:After w,w'=x.W)→Q .normal a' w') l a):(Code.region id l.toArray true).wp P Q a w :=
 wp_region_quiet (C:=fun w'=>∃ x:After w,w'=x.W) hm hB ⟨⟨w.drew,(Below.refl _ _).drew⟩,rfl⟩ (by simpa using h)
theorem calls_after {P:Program} {f:FuncId} {args:Array Value} {G:World} {x:After G} {v:Value} (h:Calls P f args x.W fun e w'=>e=.returned v∧Below x.W.heap.size x.W w') :
  Calls P f args x.W fun e w''=>e=.returned v∧∃ y:After G,w''=y.W :=
 h.mono fun _ w' ⟨he,hb⟩=>⟨he,⟨w',x.below.trans (hb.mono x.below.size)⟩,rfl⟩
abbrev bsB (l:Bs):ByteArray:=⟨l.toArray⟩
theorem bsB_add (a b:Bs):bsB a++bsB b=bsB (a++b):=by
 apply ByteArray.ext
 rw[ByteArray.data_append]
 apply Array.ext'
 simp
open Go.RowKit
theorem Tryd.infoU8:(Tryd.prog.info? 5).map (fun i=>(i.zero,i.size,i.bytes))=some (some (.int .u8 0),1,1):=by kernel_rfl
def OwnB (w:World) (base:Nat) (v:Value) (l:List Int):Prop:=w.ownsRow base 5 1 v l.length (l.map (Value.int .u8))
theorem OwnB.nil (w:World) (base:Nat):OwnB w base (.slice none 0 0) []:=World.ownsRow_nil _ _ _ _
theorem OwnB.later {w w':World} {base:Nat} {v:Value} {l:List Int} (h:OwnB w base v l) (hb:Below w.heap.size w w'):OwnB w' base v l:=by
 obtain⟨h1,h2⟩:=h
 refine⟨h1,?_⟩
 rcases h2 with h2 |⟨g,cap,cur,hv,hg,hh,r⟩
 ·exact .inl h2
 ·have hlt:g<w.heap.size:=by
   rcases Nat.lt_or_ge g w.heap.size with h | h
   ·exact h
   ·rw[Array.getElem?_eq_none h] at hh;cases hh
  exact .inr ⟨g,cap,cur,hv,hg,by rw[hb.block g hlt];exact hh,r⟩
theorem OwnB.slice {w:World} {base:Nat} {v:Value} {l:List Int} (h:OwnB w base v l):∃ p n c,v=.slice p n c:=by
 rcases h.2 with ⟨rfl,_⟩ |⟨g,cap,cur,rfl,_⟩
 ·exact⟨_,_,_,rfl⟩
 ·exact⟨_,_,_,rfl⟩
theorem wp_append_byte2 {w:World} {ops:Array Oper} {rest:List Oper} {o:Oper} {a:Act} {Q:Exit→Act→World→Prop} (hgd:o.guard=none) (s x:Operand)
  (ho:o.op=.call { callee:=.builtin .append,args:=#[s,x],argTypes:=#[62,62] }) (base:Nat) (v:Value) (l:List Int) (hs:a.eval s=v) (hown:OwnB w base v l)
  (y:Int) (g c:Nat) (hx:a.eval x=.slice (some ⟨g,0,none⟩) 1 c) (hc:w.cell? ⟨g,0,none⟩=some (.int .u8 y)) (hlen:l.length<1099511627776) (hbase:base≤w.heap.size)
  (h:∀ v' w',OwnB w' base v' (l++[y])→w.grownBy w' v.ownBlock→Below base w w'→wpList Tryd.prog ops Q rest (a.put o.dst v') w'):wpList Tryd.prog ops Q (o :: rest) a w:=by
 obtain⟨i0,hi,hz0,hz1,hz2⟩:=info_parts Tryd.infoU8
 refine wpList_append_own w hgd s x 62 ho base 5 i0 (.int .u8 0) 1 1 Tryd.underlying62 hi hz0 hz1 hz2 rfl (by decide) v l.length _ hs hown ⟨g,0,none⟩ 1 c [.int .u8 y] hx rfl ?_ ?_ ?_ ?_ hbase ?_
 ·intro j u hj
  match j,hj with
  | 0,hj=>simp at hj;subst hj;simpa [Addr.add] using hc
 ·intro u hu
  simp at hu
  subst hu
  rfl
 ·unfold maxLen;omega
 ·omega
 ·intro v' w' h1 h2 _
  refine h v' w' ?_ h2 ((Below.refl _ _).grown h2 hbase fun k hk=>(hown.lt _ hk).1)
  unfold OwnB
  rw[List.length_append,List.map_append]
  exact h1
open Go.RowKit
set_option maxRecDepth 100000
abbrev toJ (l:Bs):List Int:=l.map fun b=>(b.toNat:Int)
theorem toJ_app (a b:Bs):toJ (a++b)=toJ a++toJ b:=List.map_append
theorem toJ_push (l:Bs):∀ acc:ByteArray,(toJ l).foldl (fun (r:ByteArray) (n:Int)=>r.push (UInt8.ofNat n.toNat)) acc=⟨acc.data++l.toArray⟩:=by
 induction l with
 | nil=>intro acc;simp[toJ]
 | cons b l ih =>
  intro acc
  have:=ih (acc.push b)
  unfold toJ at this ⊢
  simp only[List.map_cons,List.foldl_cons,Int.toNat_natCast,UInt8.ofNat_toNat]
  rw[this]
  simp[ByteArray.push]
theorem conv_own {w:World} {base:Nat} {v:Value} {l:Bs} (h:OwnB w base v (toJ l)):(convert 62 9 v).run Tryd.prog w=.ok (.string (bsB l)) w:=by
 have h':=h
 obtain⟨h1,h2⟩:=h'
 rcases h2 with ⟨rfl,h0⟩ |⟨g,cap,cur,rfl,hb,hg,hn,hm,hc,ht⟩
 ·have:l=[]:=by rw[List.length_map] at h0;exact List.eq_nil_of_length_eq_zero h0
  subst this
  rw[run_convert_bytes_string w 62 9 5 none 0 0 Tryd.underlying62 Tryd.underlying5 Tryd.underlying9]
  rfl
 ·rw[run_convert_bytes_string w 62 9 5 _ _ _ Tryd.underlying62 Tryd.underlying5 Tryd.underlying9]
  have hl:(loadCells ⟨g,0,none⟩ (toJ l).length).run Tryd.prog w=.ok ((toJ l).map (Value.int .u8)).toArray w:=by
   have:=run_loadCells_list (P:=Tryd.prog) w ⟨g,0,none⟩ ((toJ l).map (Value.int .u8)) (fun j u hu=>World.ownsRow.cells h (g:=g) rfl j u hu)
   rwa [List.length_map] at this
  rw[run_bytesToString w _ _ cap (toJ l) hl,toJ_push]
  simp
open Go.ChangeShapes Go.WideShapes Go.ChangeAt Go.RowKit Go.Joins
set_option maxRecDepth 100000
theorem Tryd.own:ownKnob Tryd.prog.godebug=none:=by kernel_rfl
theorem Tryd.laidOut:laidOutB Tryd.prog=true:=by kernel_rfl
section
variable {H:Type} {enc:TypeId × Value→H}
theorem all_stay {W W':World} (hb:Below W.heap.size W W'):∀ {ts:List TypeId} {vs:List Value} {ds:List (DataW H)} {ps:List MemPlace},
  (∀ t∈ts,Tryd.prog.readableRec t=true∧t<Tryd.prog.types.size)→DataW.TrodAll enc Tryd.prog W 0 (fun _=>true) true ts vs ds ps→(∀ x∈ps,x.block<W.heap.size) →
  DataW.TrodAll enc Tryd.prog W' 0 (fun b=>decide (b<W.heap.size)) true ts vs ds ps
 | [],[],[],_,_,h,_=>h
 | t :: ts,v :: vs,d :: ds,ps,hr,h,hlt=>by
  obtain⟨p,q,h1,h2,rfl⟩:=h
  have hp:∀ x∈p,x.block<W.heap.size:=fun x hx=>hlt x (List.mem_append_left _ hx)
  have hq:∀ x∈q,x.block<W.heap.size:=fun x hx=>hlt x (List.mem_append_right _ hx)
  exact⟨p,q,Below.trod Tryd.laidOut (hr t List.mem_cons_self).1 (hr t List.mem_cons_self).2 h1 hb hp,all_stay hb (fun t' ht'=>hr t' (List.mem_cons_of_mem _ ht')) h2 hq,rfl⟩
 | [],[],_ :: _,_,_,h,_=>h.elim
 | [],_ :: _,_,_,_,h,_=>h.elim
 | _ :: _,[],_,_,_,h,_=>h.elim
 | _ :: _,_ :: _,[],_,_,h,_=>h.elim
theorem post_law {f:Func} {s:ChangeSpec} {W W':World} {args:Array Value} {ds gs:List (DataW H)} {before:List MemPlace} (hv:s.vars=[])
  (hW:DataW.Whole enc Tryd.prog f.params.toList s.vars false W args.toList ds gs before) (hfn:s.fn H ds={ results:=[.lit (.bool true)],args:=ds }) (hres:f.resultTypes=#[4])
  (hread:∀ t∈f.params.toList,Tryd.prog.readableRec t=true∧t<Tryd.prog.types.size) (hb:Below W.heap.size W W'):s.post enc Tryd.prog f false true false false W args (.bool true) W':=by
 have hW':=hW
 obtain⟨p,q,hA,hV,rfl,_,_⟩:=hW
 rw[hv] at hV
 obtain⟨rfl,rfl⟩:=trodVars_none hV
 have hlt:∀ x∈p,x.block<W.heap.size:=fun x hx=>hW'.lt x (List.mem_append_left _ hx)
 refine⟨ds,[],p++[],[],p,[],hW',?_,?_,?_,hb.frame _,fun h=>by cases h⟩
 ·rw[List.append_nil,hfn,hres]
  exact trodAll_mk1 (shut_bool Tryd.underlying4 true)
 ·rw[List.append_nil,hfn]
  exact all_stay hb hread hA hlt
 ·rw[List.append_nil,hfn,hv]
  exact rfl
theorem open_num {r:Reach} {b0 base:Nat} {W:World} {spare:Nat→Bool} {held:Bool} {v:Value} {d:DataW H} {p:List MemPlace} (hv:Value.okWide Tryd.prog W r b0 3 v) (h:DataW.Trod enc Tryd.prog W base spare held 3 v d p) :
  ∃ x:Int,v=.int .i64 x∧inR x=true:=by
 obtain⟨x,rfl,rfl,rfl,wx⟩:=open_int Tryd.underlying3 hv h
 exact⟨x,rfl,by simpa [inR,Lit.wf,IntKind.min,IntKind.signed,IntKind.bits] using wx⟩
end
open Go.ChangeShapes Go.WideShapes Go.ChangeAt Go.RowKit Go.Joins Go.Deep
set_option maxRecDepth 100000
instance:Inhabited Val:=⟨nul⟩
section
variable {H:Type} {enc:TypeId × Value→H}
end
open Go.ChangeShapes Go.WideShapes Go.ChangeAt Go.RowKit Go.Joins Go.Deep
set_option maxRecDepth 100000
section
variable {H:Type} {enc:TypeId × Value→H}
instance:Inhabited ByteArray:=⟨⟨#[]⟩⟩
instance:Inhabited Col:=⟨⟨⟨#[]⟩,0⟩⟩
instance:Inhabited Tab:=⟨⟨⟨#[]⟩,[],[]⟩⟩
end
open Go.RowKit
set_option maxRecDepth 100000
theorem dcol_ok {op:Int} {v:Val} {rel col n:Int} {s:ByteArray} {len:Nat} (h:headOk op v rel col n s len=true) (h2:op=2):0≤col∧col≤5:=by
 obtain⟨_,_,_,h⟩:=head_parts h
 rcases h with ⟨h1,_⟩ |⟨_,⟨_,h1⟩ |⟨h1,_⟩ | h1⟩
 ·omega
 ·exact⟨h1.2.2.1,h1.2.2.2.1⟩
 ·omega
 ·omega
theorem n_ok {op:Int} {v:Val} {rel col n:Int} {s:ByteArray} {len:Nat} (h:headOk op v rel col n s len=true) (h3:op=3):1≤n∧n≤4:=by
 obtain⟨_,_,_,h⟩:=head_parts h
 rcases h with ⟨h1,_⟩ |⟨_,⟨h1,_⟩ |⟨_,h1⟩ | h1⟩
 ·omega
 ·omega
 ·exact⟨h1.2.2.1,h1.2.2.2⟩
 ·omega
open Go.RowKit
section
variable {P:Program} {ops:Array Oper} {md:Region.Mode} {C:World→Prop}
def anyHead (P:Program) (md:Region.Mode) (ops:Array Oper) (C:World→Prop) (n:Nat) (L:Array Bool→Act→Prop):Nat→Array Bool→Act→Prop
 | 0,listed,a=>L listed a
 | f+1,listed,a=>Region.ready md ops listed≠[]∧∀ i∈Region.ready md ops listed,i<n∧qOp P ops C i (anyHead P md ops C n L f (listed.setIfInBounds i true)) a
theorem anyHead_goes {n g:Nat} {L:Array Bool→Act→Prop} {Q':Exit→Act→World→Prop} (hL:∀ listed a w,C w→L listed a→wpAny P md ops Q' g listed a w) :
  ∀ (f:Nat) (listed:Array Bool) (a:Act) (w:World),C w→anyHead P md ops C n L f listed a→wpAny P md ops Q' (f+g) listed a w
 | 0,listed,a,w,hw,h=>by rw[Nat.zero_add];exact hL _ _ _ hw h
 | f+1,listed,a,w,hw,h=>by
  rw[show f+1+g=(f+g)+1 by omega]
  exact⟨fun h0=>absurd h0 h.1,fun i hi=>wpOp_of_qOp hw (fun a' w' hw' h'=>anyHead_goes hL f _ a' w' hw' h') (h.2 i hi).2⟩
theorem anyHead_first {n i:Nat} {oi:Oper} {v:Value} {L:Array Bool→Act→Prop} (hi:ops[i]?=some oi) (hsel:∀ (j:Nat) (o:Oper) cs b,ops[j]?=some o→o.op≠.select cs b)
  (hs:Region.sinkB md ops n=true) (hc:Region.chainB md ops n=true) (hn:n<ops.size) (hin:i<n) (hdone:∀ listed a,L listed a→∀ j∈Region.ready md ops listed,n≤j) :
  ∀ (f:Nat) (listed:Array Bool) (a:Act),HeadInv md ops n listed →
   (∀ j oj,ops[j]?=some oj→j≠i→listed.getD j true=false→(∀ e∈oj.after,Region.binds md e=true→e.on≠i)→oi.apart ops oj=true) →
   i∈Region.ready md ops listed→YieldsIn P ops C oi v a →
   anyHead P md ops C n L f (listed.setIfInBounds i true) (a.put oi.dst v)→anyHead P md ops C n L (f+1) listed a:=by
 intro f
 induction f with
 | zero =>
  intro listed a inv _ hr hy H
  refine⟨fun h=>(by rw[h] at hr;cases hr),fun j hj=>?_⟩
  have hjn:j<n:=Nat.lt_of_not_le fun h=>absurd hj (tail_waits hs hc hn inv _ i rfl hin (mem_ready.1 hr).1 j h)
  refine⟨hjn,?_⟩
  by_cases hji:j=i
  ·subst hji;exact hy.qOp hi H
  ·have:=hdone _ _ H j (ready_mono hj hji)
   omega
 | succ f ih =>
  intro listed a inv hfree hr hy H
  refine⟨fun h=>(by rw[h] at hr;cases hr),fun j hj=>?_⟩
  have hjn:j<n:=Nat.lt_of_not_le fun h=>absurd hj (tail_waits hs hc hn inv _ i rfl hin (mem_ready.1 hr).1 j h)
  refine⟨hjn,?_⟩
  by_cases hji:j=i
  ·subst hji;exact hy.qOp hi H
  ·obtain⟨hjun,oj,hoj,hall⟩:=mem_ready.1 hj
   have hnot:∀ e∈oj.after,Region.binds md e=true→e.on≠i:=fun e he hb heq=>by
    have h1:=hall e he hb
    rw[heq,getD_both (mem_ready.1 hr).1] at h1
    cases h1
   refine qOp_mono (fun a' h3=>ih (listed.setIfInBounds j true) a' (inv.set hj hjn) (fun k ok hk hki hun hno=>?_) (ready_mono hr (Ne.symm hji)) h3.1 ?_)
    (qOp_put hoj (hfree j oj hoj hji hjun hnot) (fun cs b=>hsel i oi cs b hi) (fun cs b=>hsel j oj cs b hoj) hy (H.2 j (ready_mono hj hji)).2)
   ·refine hfree k ok hk hki ?_ hno
    by_cases hjk:j=k
    ·subst hjk;exact hjun
    ·rwa [getD_set_ne true hjk] at hun
   ·rw[Array.setIfInBounds_comm _ _ hji]
    exact h3.2
theorem anyHead_lex {n g:Nat} {Lq:Act→Prop} (hsel:Region.noSelect ops=true) (hs:Region.sinkB md ops n=true) (hc:Region.chainB md ops n=true) (hn:n<ops.size) :
  ∀ (l:List Oper) (k:Nat) (listed:Array Bool) (a:Act),(∀ j,j<l.length→l[j]?=ops[k+j]?)→k+l.length=n→HeadInv md ops n listed →
  Region.lexHead md ops g l.length k listed=true→wpQuiet P ops C Lq l a →
  anyHead P md ops C n (fun listed' a'=>Region.seqB md ops g n listed'=true∧Lq a') l.length listed a
 | [],k,listed,a,_,hk,_,hB,h=>by
  obtain rfl:k=n:=by simpa using hk
  exact⟨by simpa [Region.lexHead] using hB,h⟩
 | o :: l,k,listed,a,hl,hk,inv,hB,h=>by
  have h0:ops[k]?=some o:=by simpa using (hl 0 (by simp)).symm
  simp only[List.length_cons,Region.lexHead,Bool.and_eq_true] at hB
  obtain⟨⟨hr,hf⟩,hB'⟩:=hB
  have hkn:k<n:=by simp only[List.length_cons] at hk;omega
  have hr':k∈Region.ready md ops listed:=by simpa using hr
  obtain⟨v,hy,hK⟩:=yieldsIn_of_qOp h0 (show qOp P ops C k (wpQuiet P ops C Lq l) a by unfold qOp;simp only[h0];exact h)
  exact anyHead_first h0 (Region.noSelect_spec hsel) hs hc hn hkn (fun listed' a' hL=>seqB_ready hL.1) l.length listed a inv (Region.free_spec h0 hf) hr' hy
   (anyHead_lex hsel hs hc hn l (k+1) _ _ (fun j hj=>by have:=hl (j+1) (by simp;omega);simpa [Nat.add_assoc,Nat.add_comm 1 j] using this) (by simp only[List.length_cons] at hk;omega) (inv.set hr' hkn) hB' hK)
theorem wp_region_quiet_tail {id:Nat} {Q:Exit→Act→World→Prop} {a:Act} {w:World} {l:List Oper} (n:Nat) (hm:P.follows .mixedOrders=true) (hB:Region.lexTailB .any l.toArray n=true) (hC:C { w with drawn:=w.drawn+1 })
  (h:wpQuiet P l.toArray C (fun a'=>∀ w',C w'→wpList P l.toArray Q (l.drop n) a' w') (l.take n) a):(Code.region id l.toArray true).wp P Q a w:=by
 simp only[Region.lexTailB,Bool.and_eq_true,decide_eq_true_eq] at hB
 obtain⟨⟨⟨⟨hsel,hn⟩,hs⟩,hc⟩,hlex⟩:=hB
 have hn':n<l.length:=by simpa using hn
 have htl:(l.take n).length=n:=by simp;omega
 have hdl:(l.drop n).length=l.toArray.size - n:=by simp
 have inv0:HeadInv .any l.toArray n (Array.replicate l.toArray.size false) :=
  ⟨by simp,fun j oj _ hl=>(by rw[getD_replicate_false] at hl;cases hl),fun t _ ht=>getD_in (by simpa using ht) (getD_replicate_false _ _)⟩
 have H:=anyHead_lex (md:=.any) (C:=C) (g:=l.toArray.size - n) hsel hs hc hn (l.take n) 0 _ a (fun j hj=>by
  have hj':j<n:=by rw[htl] at hj;exact hj
  simp[hj']) (by simpa using htl) inv0 (by rw[htl];exact hlex) h
 have G:=anyHead_goes (Q':=Q) (g:=l.toArray.size - n) (fun listed a' w' hw' hL=>by
  have:=wpAny_of_seq (md:=.any) (Q':=Q) (l.drop n) n listed a' w' (fun j=>by simp[List.getElem?_drop]) (by rw[hdl];exact hL.1) (hL.2 w' hw')
  rwa [hdl] at this) _ _ _ _ hC H
 rw[htl,show n+(l.toArray.size - n)=l.toArray.size by omega] at G
 exact wp_region_any hm G
end
theorem wp_region_after_tail {P:Program} {id:Nat} {Q:Exit→Act→World→Prop} {a:Act} {w:World} {l:List Oper} (n:Nat) (hm:P.follows .mixedOrders=true) (hB:Region.lexTailB .any l.toArray n=true)
  (h:wpQuiet P l.toArray (fun w'=>∃ x:After w,w'=x.W) (fun a'=>∀ w',(∃ x:After w,w'=x.W)→wpList P l.toArray Q (l.drop n) a' w') (l.take n) a):(Code.region id l.toArray true).wp P Q a w :=
 wp_region_quiet_tail (C:=fun w'=>∃ x:After w,w'=x.W) n hm hB ⟨⟨w.drew,(Below.refl _ _).drew⟩,rfl⟩ h
open Go.RowKit Go.Shelf
set_option maxRecDepth 100000
attribute [local go_sem] Oper.semAt_some
open Go.RowKit
set_option maxRecDepth 100000
theorem op_range {op:Int} {v:Val} {rel col n:Int} {s:ByteArray} {len:Nat} (h:headOk op v rel col n s len=true):1≤op∧op≤18:=by
 have h1:=(head_parts h).1
 unfold wantsOf at h1
 split at h1
 ·omega
 ·omega
end Go.Proofs.YtklgoajgchfmeaaDoor
