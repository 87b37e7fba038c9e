/- A part of the proof. -/
import Derived.Test.YtapbglhjamddbaaGreatDoorRows
import Derived.WalkKit
import Derived.WalkSpells
import Derived.WalkLawsBesides
import Derived.BigQuiet
import Derived.Deep.RegionHeld3
import Derived.Deep.DeepCutAuto
import Derived.Lib.Hide
import Derived.Lib.LaidU8
import Derived.Lib.Space
import Derived.OpenShut
import Derived.Stop.LaidErr
import Derived.Deep.Upon
import Derived.Maps.AppendAt
import Derived.RegionTactic
import Derived.Deep.Slices
import Derived.Lib.ItoaNum
namespace Go.Proofs.YtapbglhjamddbaaGreatDoor
open Go.RowKit
structure Val where
 k:Int
 n:Int
 s:ByteArray
abbrev num (k:Int):Val:=⟨1,k,⟨#[]⟩⟩
def inR (z:Int):Bool:=decide (-9223372036854775808≤z∧z≤9223372036854775807)
@[simp,go_sem] theorem lt_s2 (n:Nat):n<n+1+1:=by omega
@[simp,go_sem] theorem lt_s3 (n:Nat):n<n+1+1+1:=by omega
@[simp,go_sem] theorem lt_s4 (n:Nat):n<n+1+1+1+1:=by omega
@[simp,go_sem] theorem lt_s5 (n:Nat):n<n+1+1+1+1+1:=by omega
@[simp,go_sem] theorem lt_s6 (n:Nat):n<n+1+1+1+1+1+1:=by omega
@[simp,go_sem] theorem lt_s7 (n:Nat):n<n+1+1+1+1+1+1+1:=by omega
@[simp,go_sem] theorem lt_s8 (n:Nat):n<n+1+1+1+1+1+1+1+1:=by omega
@[simp,go_sem] theorem ne_s2 (n:Nat):(n=n+1+1)=False:=by simp;omega
@[simp,go_sem] theorem ne_t2 (n:Nat):(n+1+1=n)=False:=by simp;omega
@[simp,go_sem] theorem ne_s3 (n:Nat):(n=n+1+1+1)=False:=by simp;omega
@[simp,go_sem] theorem ne_t3 (n:Nat):(n+1+1+1=n)=False:=by simp;omega
@[simp,go_sem] theorem ne_s4 (n:Nat):(n=n+1+1+1+1)=False:=by simp;omega
@[simp,go_sem] theorem ne_t4 (n:Nat):(n+1+1+1+1=n)=False:=by simp;omega
@[simp,go_sem] theorem ne_s5 (n:Nat):(n=n+1+1+1+1+1)=False:=by simp;omega
@[simp,go_sem] theorem ne_t5 (n:Nat):(n+1+1+1+1+1=n)=False:=by simp;omega
theorem ext_refl (W:World):Below W.heap.size W W:=Below.refl _ _
theorem ext_alloc {W w:World} (h:Below W.heap.size W w) (o:Obj):Below W.heap.size W (w.alloc o):=h.alloc h.size o
theorem ext_drew {W w:World} (h:Below W.heap.size W w):Below W.heap.size W w.drew:=h.drew
theorem ext_drewN {W w:World} (h:Below W.heap.size W w) (n:Nat):Below W.heap.size W (w.drewN n):=⟨h.os,h.tape,h.output,h.size,h.block⟩
theorem ext_set {W w:World} {p:Addr} (hp:W.heap.size≤p.block) (u:Value) (h:Below W.heap.size W w):Below W.heap.size W (w.setCell p u):=h.setCell hp u
theorem ext_trans {W a b:World} (h:Below W.heap.size W a) (k:Below a.heap.size a b):Below W.heap.size W b:=h.trans (k.mono h.size)
abbrev Bs:=List UInt8
def isBlank (b:UInt8):Bool:=b == 32 || b == 9 || b == 10 || b == 13
def isLetter (b:UInt8):Bool:=(decide (97≤b) && decide (b≤122)) ||(decide (65≤b) && decide (b≤90))
def isDigit (b:UInt8):Bool:=decide (48≤b) && decide (b≤57)
def isWordB (b:UInt8):Bool:=isLetter b || isDigit b || b == 95
def lower (b:UInt8):UInt8:=if 65≤b∧b≤90 then b+32 else b
def numStep (n:Nat) (b:UInt8):Nat:=10*n+(b.toNat - 48)
def numOf (l:Bs):Nat:=l.foldl numStep 0
def lexWords:List Bs:=[[115,101,108,101,99,116],[100,105,115,116,105,110,99,116],[102,114,111,109],[106,111,105,110],[108,101,102,116],[115,101,109,105],[111,110],[119,104,101,114,101],[103,114,111,117,112],[98,121],[117,110,105,111,110],[97,108,108],[111,114,100,101,114],[100,101,115,99],[97,110,100],[111,114],[110,111,116],[105,115],[110,117,108,108],[116,114,117,101],[102,97,108,115,101],[99,111,117,110,116],[115,117,109],[109,105,110],[109,97,120]]
def singles:Bs:=[60,62,61,43,45,42,47,40,41,44,46]
structure Tok where
 kd:Nat
 n:Nat
 at_:Nat
 s:Bs
inductive One where
 | tok (kd n:Nat) (s:Bs) (used:Nat)
 | err (e rel:Nat)
def textOf:Bs→Option (Bs × Nat)
 | []=>none
 | [b]=>if b=39 then some ([],1) else none
 | b :: c :: r=>if b=39 then (if c=39 then (textOf r).map fun x=>(39 :: x.1,x.2+2) else some ([],1)) else (textOf (c :: r)).map fun x=>(b :: x.1,x.2+1)
def signOf:Bs→Option Bs
 | []=>none
 | [b]=>if b∈singles then some [b] else none
 | b :: c :: _=>if b=60∧c=61 then some [60,61] else if b=62∧c=61 then some [62,61] else if b=60∧c=62 then some [60,62] else if b∈singles then some [b] else none
def oneWord (l:Bs):One:=if 20<(l.takeWhile isWordB).length then .err 5 0 else .tok (if (l.takeWhile isWordB).map lower∈lexWords then 1 else 2) 0 ((l.takeWhile isWordB).map lower) (l.takeWhile isWordB).length
def oneNum (l:Bs):One:=if 9223372036854775807<numOf (l.takeWhile isDigit) then .err 5 0 else .tok 3 (numOf (l.takeWhile isDigit)) [] (l.takeWhile isDigit).length
def oneText (r:Bs):One:=match textOf r with | none=>.err 6 (r.length+1) | some (o,u)=>if 40<o.length then .err 5 0 else .tok 4 0 o (u+1)
def onePar (r:Bs):One:=if r.takeWhile isDigit=[] then .err 6 0 else if numOf (r.takeWhile isDigit)<1∨4<numOf (r.takeWhile isDigit) then .err 5 0 else .tok 5 (numOf (r.takeWhile isDigit)) [] ((r.takeWhile isDigit).length+1)
def oneSign (l:Bs):One:=match signOf l with | none=>.err 6 0 | some s=>.tok 6 0 s s.length
def one:Bs→One
 | []=>.err 6 0
 | b :: r=>if isLetter b then oneWord (b :: r) else if isDigit b then oneNum (b :: r) else if b=39 then oneText r else if b=36 then onePar r else oneSign (b :: r)
inductive Res where
 | ok (l:List Tok)
 | err (e at_:Nat)
def Res.push (t:Tok):Res→Res
 | .ok l=>.ok (t :: l)
 | .err e a=>.err e a
def lexF:Nat→Bs→Nat→Nat→Res
 | 0,_,_,_=>.ok []
 | _+1,[],_,_=>.ok []
 | f+1,b :: r,pos,cnt=>if isBlank b then lexF f r (pos+1) cnt else
   match one (b :: r) with
   | .err e rel=>.err e (pos+rel)
   | .tok kd n s used=>if cnt=400 then .err 5 pos else (lexF f ((b :: r).drop used) (pos+used) (cnt+1)).push ⟨kd,n,pos,s⟩
def lexL (l:Bs) (pos cnt:Nat):Res:=lexF l.length l pos cnt
def lexS (s:Bs):Res:=if 2000<s.length then .err 5 0 else lexL s 0 0
theorem textOf_used:∀ {r o:Bs} {u:Nat},textOf r=some (o,u)→1≤u∧u≤r.length
 | [],o,u,h=>by cases h
 | [b],o,u,h=>by
  unfold textOf at h
  split at h
  ·simp only[Option.some.injEq,Prod.mk.injEq] at h
   obtain⟨-,rfl⟩:=h
   simp
  ·cases h
 | b :: c :: r,o,u,h=>by
  unfold textOf at h
  split at h
  ·split at h
   ·cases e:textOf r with
    | none=>rw[e] at h;cases h
    | some x =>
     rw[e] at h
     simp only[Option.map_some,Option.some.injEq,Prod.mk.injEq] at h
     obtain⟨-,rfl⟩:=h
     have:=textOf_used (o:=x.1) (u:=x.2) (by rw[e])
     simp only[List.length_cons]
     omega
   ·simp only[Option.some.injEq,Prod.mk.injEq] at h
    obtain⟨-,rfl⟩:=h
    simp
  ·cases e:textOf (c :: r) with
   | none=>rw[e] at h;cases h
   | some x =>
    rw[e] at h
    simp only[Option.map_some,Option.some.injEq,Prod.mk.injEq] at h
    obtain⟨-,rfl⟩:=h
    have:=textOf_used (o:=x.1) (u:=x.2) (by rw[e])
    simp only[List.length_cons] at this ⊢
    omega
theorem signOf_one (b:UInt8):signOf [b]=if b∈singles then some [b] else none:=rfl
theorem signOf_two (b c:UInt8) (r:Bs):signOf (b :: c :: r)=if b=60∧c=61 then some [60,61] else if b=62∧c=61 then some [62,61] else if b=60∧c=62 then some [60,62] else if b∈singles then some [b] else none:=rfl
theorem one_cons (b:UInt8) (r:Bs):one (b :: r)=if isLetter b then oneWord (b :: r) else if isDigit b then oneNum (b :: r) else if b=39 then oneText r else if b=36 then onePar r else oneSign (b :: r):=rfl
theorem signOf_len {l s:Bs} (h:signOf l=some s):1≤s.length∧s.length≤l.length:=by
 match l,h with
 | [],h=>cases h
 | [b],h =>
  rw[signOf_one] at h
  split at h
  ·cases h;simp
  ·cases h
 | b :: c :: r,h =>
  rw[signOf_two] at h
  split at h
  ·cases h;simp
  ·split at h
   ·cases h;simp
   ·split at h
    ·cases h;simp
    ·split at h
     ·cases h;simp
     ·cases h
theorem takeWhile_pos {p:UInt8→Bool} {b:UInt8} {r:Bs} (h:p b=true):1≤((b :: r).takeWhile p).length:=by rw[List.takeWhile_cons,h];simp
theorem takeWhile_le (p:UInt8→Bool) (l:Bs):(l.takeWhile p).length≤l.length:=(List.takeWhile_sublist p).length_le
theorem letter_word {b:UInt8} (h:isLetter b=true):isWordB b=true:=by unfold isWordB;rw[h];rfl
theorem one_used {l:Bs} {kd n:Nat} {s:Bs} {used:Nat} (h:one l=.tok kd n s used):1≤used∧used≤l.length:=by
 cases l with
 | nil=>cases h
 | cons b r =>
  rw[one_cons] at h
  split at h
  ·rename_i hb
   unfold oneWord at h
   split at h
   ·cases h
   ·cases h
    exact⟨takeWhile_pos (letter_word hb),takeWhile_le _ _⟩
  ·split at h
   ·rename_i hb
    unfold oneNum at h
    split at h
    ·cases h
    ·cases h
     exact⟨takeWhile_pos hb,takeWhile_le _ _⟩
   ·split at h
    ·unfold oneText at h
     cases e:textOf r with
     | none=>rw[e] at h;cases h
     | some x =>
      rw[e] at h
      simp only at h
      have:=textOf_used (o:=x.1) (u:=x.2) (by rw[e])
      split at h
      ·cases h
      ·cases h
       simp only[List.length_cons]
       omega
    ·split at h
     ·unfold onePar at h
      split at h
      ·cases h
      ·split at h
       ·cases h
       ·cases h
        have:=takeWhile_le isDigit r
        simp only[List.length_cons]
        omega
     ·unfold oneSign at h
      cases e:signOf (b :: r) with
      | none=>rw[e] at h;cases h
      | some x =>
       rw[e] at h
       cases h
       exact signOf_len e
theorem one_rel {l:Bs} {e rel:Nat} (h:one l=.err e rel):(e=5∨e=6)∧rel≤l.length:=by
 cases l with
 | nil=>cases h;exact⟨.inr rfl,Nat.zero_le _⟩
 | cons b r =>
  rw[one_cons] at h
  split at h
  ·unfold oneWord at h
   split at h
   ·cases h;exact⟨.inl rfl,Nat.zero_le _⟩
   ·cases h
  ·split at h
   ·unfold oneNum at h
    split at h
    ·cases h;exact⟨.inl rfl,Nat.zero_le _⟩
    ·cases h
   ·split at h
    ·unfold oneText at h
     split at h
     ·cases h;exact⟨.inr rfl,by simp⟩
     ·split at h
      ·cases h;exact⟨.inl rfl,Nat.zero_le _⟩
      ·cases h
    ·split at h
     ·unfold onePar at h
      split at h
      ·cases h;exact⟨.inr rfl,Nat.zero_le _⟩
      ·split at h
       ·cases h;exact⟨.inl rfl,Nat.zero_le _⟩
       ·cases h
     ·unfold oneSign at h
      split at h
      ·cases h;exact⟨.inr rfl,Nat.zero_le _⟩
      ·cases h
theorem lexF_more:∀ (f g:Nat) (l:Bs) (pos cnt:Nat),l.length≤f→l.length≤g→lexF f l pos cnt=lexF g l pos cnt
 | 0,0,_,_,_,_,_=>rfl
 | 0,g+1,l,_,_,h,_=>by
  obtain rfl:l=[]:=List.length_eq_zero_iff.1 (by omega)
  rfl
 | f+1,0,l,_,_,_,h=>by
  obtain rfl:l=[]:=List.length_eq_zero_iff.1 (by omega)
  rfl
 | f+1,g+1,[],_,_,_,_=>rfl
 | f+1,g+1,b :: r,pos,cnt,h1,h2=>by
  simp only[List.length_cons] at h1 h2
  unfold lexF
  split
  ·exact lexF_more f g r _ _ (by omega) (by omega)
  ·cases e:one (b :: r) with
   | err=>rfl
   | tok kd n s used =>
    have hu:=one_used e
    simp only
    split
    ·rfl
    ·rw[lexF_more f g ((b :: r).drop used) _ _ (by rw[List.length_drop,List.length_cons];omega) (by rw[List.length_drop,List.length_cons];omega)]
theorem lexL_blank {b:UInt8} {r:Bs} (h:isBlank b=true) (pos cnt:Nat):lexL (b :: r) pos cnt=lexL r (pos+1) cnt:=by
 unfold lexL
 rw[List.length_cons,lexF,h,if_pos rfl]
theorem lexL_err {b:UInt8} {r:Bs} {e rel:Nat} (h:isBlank b=false) (h1:one (b :: r)=.err e rel) (pos cnt:Nat):lexL (b :: r) pos cnt=.err e (pos+rel):=by
 unfold lexL
 rw[List.length_cons,lexF,h,h1]
 rfl
theorem lexL_tok {b:UInt8} {r:Bs} {kd n:Nat} {s:Bs} {used:Nat} (h:isBlank b=false) (h1:one (b :: r)=.tok kd n s used) (pos cnt:Nat) :
  lexL (b :: r) pos cnt=if cnt=400 then .err 5 pos else (lexL ((b :: r).drop used) (pos+used) (cnt+1)).push ⟨kd,n,pos,s⟩:=by
 have hu:=one_used h1
 unfold lexL
 rw[List.length_cons,lexF,h,h1]
 simp only[Bool.false_eq_true,if_false]
 split
 ·rfl
 ·rw[lexF_more _ ((b :: r).drop used).length _ _ _ (by rw[List.length_drop,List.length_cons];omega) (Nat.le_refl _)]
theorem lex_ind {P:Bs→Prop} (h0:P []) (h1:∀ b r,isBlank b=true→P r→P (b :: r)) (h2:∀ b r e rel,isBlank b=false→one (b :: r)=.err e rel→P (b :: r))
  (h3:∀ b r kd n s used,isBlank b=false→one (b :: r)=.tok kd n s used→P ((b :: r).drop used)→P (b :: r)):∀ l,P l:=by
 have H:∀ (k:Nat) (l:Bs),l.length≤k→P l:=by
  intro k
  induction k with
  | zero =>
   intro l hl
   obtain rfl:l=[]:=List.length_eq_zero_iff.1 (by omega)
   exact h0
  | succ k ih =>
   intro l hl
   cases l with
   | nil=>exact h0
   | cons b r =>
    simp only[List.length_cons] at hl
    cases hb:isBlank b with
    | true=>exact h1 b r hb (ih r (by omega))
    | false =>
     cases e:one (b :: r) with
     | err e' rel=>exact h2 b r e' rel hb e
     | tok kd n s used =>
      have hu:=one_used e
      exact h3 b r kd n s used hb e (ih _ (by rw[List.length_drop,List.length_cons];omega))
 exact fun l=>H l.length l (Nat.le_refl _)
theorem blank_cases {c:UInt8} (h:isBlank c=true):c=32∨c=9∨c=10∨c=13:=by
 unfold isBlank at h
 simp only[Bool.or_eq_true,beq_iff_eq] at h
 rcases h with ((h | h) | h) | h
 ·exact .inl h
 ·exact .inr (.inl h)
 ·exact .inr (.inr (.inl h))
 ·exact .inr (.inr (.inr h))
theorem textOf_one (b:UInt8):textOf [b]=if b=39 then some ([],1) else none:=rfl
theorem textOf_two (b c:UInt8) (r:Bs):textOf (b :: c :: r)=if b=39 then (if c=39 then (textOf r).map fun x=>(39 :: x.1,x.2+2) else some ([],1)) else (textOf (c :: r)).map fun x=>(b :: x.1,x.2+1):=by rw[textOf]
theorem textOf_step {b:UInt8} (h:b≠39) (l:Bs):textOf (b :: l)=(textOf l).map fun x=>(b :: x.1,x.2+1):=by
 cases l with
 | nil=>rw[textOf_one,if_neg h];rfl
 | cons c r=>rw[textOf_two,if_neg h]
theorem lexL_ahead:∀ (bl:Bs) (l:Bs) (pos cnt:Nat),(∀ b∈bl,isBlank b=true)→lexL (bl++l) pos cnt=lexL l (pos+bl.length) cnt
 | [],l,pos,cnt,_=>rfl
 | b :: bl,l,pos,cnt,h=>by
  rw[List.cons_append,lexL_blank (h b List.mem_cons_self),lexL_ahead bl l (pos+1) cnt (fun b hb=>h b (List.mem_cons_of_mem _ hb)),List.length_cons,show pos+1+bl.length=pos+(bl.length+1) by omega]
def Res.pre (A:List Tok):Res→Res
 | .ok l=>.ok (A++l)
 | .err e a=>.err e a
theorem pre_nil (r:Res):r.pre []=r:=by cases r <;> rfl
theorem push_ok {r:Res} {t:Tok} {A:List Tok} (h:r.push t=.ok A):∃ B,r=.ok B∧A=t :: B:=by
 cases r with
 | ok l=>cases h;exact⟨l,rfl,rfl⟩
 | err e a=>cases h
theorem lexL_most (l:Bs):∀ pos cnt B,cnt≤400→lexL l pos cnt=.ok B→cnt+B.length≤400:=by
 refine lex_ind (P:=fun l=>∀ pos cnt B,cnt≤400→lexL l pos cnt=.ok B→cnt+B.length≤400) (fun pos cnt B h hB=>?_) (fun b r h ih pos cnt B h1 hB=>?_) (fun b r e rel h h1 pos cnt B _ hB=>?_) (fun b r kd n s used h h1 ih pos cnt B h2 hB=>?_) l
 ·cases hB;simpa using h
 ·rw[lexL_blank h] at hB
  exact ih _ _ _ h1 hB
 ·rw[lexL_err h h1] at hB
  cases hB
 ·rw[lexL_tok h h1] at hB
  split at hB
  ·cases hB
  ·obtain⟨B',hB',rfl⟩:=push_ok hB
   have:=ih _ _ _ (by omega) hB'
   simp only[List.length_cons]
   omega
theorem lexL_errs (l:Bs):∀ pos cnt e a,lexL l pos cnt=.err e a→(e=5∨e=6)∧pos≤a∧a≤pos+l.length:=by
 refine lex_ind (P:=fun l=>∀ pos cnt e a,lexL l pos cnt=.err e a→(e=5∨e=6)∧pos≤a∧a≤pos+l.length) (fun pos cnt e a h=>by cases h) (fun b r h ih pos cnt e a he=>?_) (fun b r e' rel h h1 pos cnt e a he=>?_) (fun b r kd n s used h h1 ih pos cnt e a he=>?_) l
 ·rw[lexL_blank h] at he
  obtain⟨i1,i2,i3⟩:=ih _ _ _ _ he
  exact⟨i1,by omega,by rw[List.length_cons];omega⟩
 ·rw[lexL_err h h1] at he
  cases he
  have:=one_rel h1
  exact⟨this.1,by omega,by omega⟩
 ·have hu:=one_used h1
  rw[lexL_tok h h1] at he
  split at he
  ·cases he
   exact⟨.inl rfl,Nat.le_refl _,Nat.le_add_right _ _⟩
  ·cases hr:lexL ((b :: r).drop used) (pos+used) (cnt+1) with
   | ok L=>rw[hr] at he;cases he
   | err e' a' =>
    rw[hr] at he
    cases he
    obtain⟨i1,i2,i3⟩:=ih _ _ _ _ hr
    rw[List.length_drop] at i3
    exact⟨i1,by omega,by omega⟩
theorem lexL_places (l:Bs):∀ pos cnt L,lexL l pos cnt=.ok L→(∀ t∈L,∃ k b,t.at_=pos+k∧l[k]?=some b∧isBlank b=false)∧L.Pairwise (fun t u=>t.at_<u.at_):=by
 refine lex_ind (P:=fun l=>∀ pos cnt L,lexL l pos cnt=.ok L→(∀ t∈L,∃ k b,t.at_=pos+k∧l[k]?=some b∧isBlank b=false)∧L.Pairwise (fun t u=>t.at_<u.at_)) (fun pos cnt L h=>?_) (fun b r h ih pos cnt L hL=>?_) (fun b r e rel h h1 pos cnt L hL=>?_) (fun b r kd n s used h h1 ih pos cnt L hL=>?_) l
 ·cases h
  exact⟨fun t ht=>(by cases ht),List.Pairwise.nil⟩
 ·rw[lexL_blank h] at hL
  obtain⟨i1,i2⟩:=ih _ _ _ hL
  refine⟨fun t ht=>?_,i2⟩
  obtain⟨k,b',k1,k2,k3⟩:=i1 t ht
  exact⟨k+1,b',by omega,by simpa using k2,k3⟩
 ·rw[lexL_err h h1] at hL
  cases hL
 ·have hu:=one_used h1
  rw[lexL_tok h h1] at hL
  split at hL
  ·cases hL
  ·obtain⟨B,hB,rfl⟩:=push_ok hL
   obtain⟨i1,i2⟩:=ih _ _ _ hB
   have later:∀ t∈B,∃ k b',t.at_=pos+(used+k)∧(b :: r)[used+k]?=some b'∧isBlank b'=false:=fun t ht=>by
    obtain⟨k,b',k1,k2,k3⟩:=i1 t ht
    rw[List.getElem?_drop] at k2
    exact⟨k,b',by omega,k2,k3⟩
   refine⟨fun t ht=>?_,List.Pairwise.cons (fun t ht=>?_) i2⟩
   ·rcases List.mem_cons.1 ht with rfl | ht
    ·exact⟨0,b,rfl,rfl,h⟩
    ·obtain⟨k,b',k1,k2,k3⟩:=later t ht
     exact⟨used+k,b',k1,k2,k3⟩
   ·obtain⟨k,b',k1,k2,k3⟩:=later t ht
    show pos<t.at_
    omega
def ahead:Bs→Nat
 | []=>0
 | b :: r=>if isBlank b then ahead r+1 else 0
theorem all_bytes {P:UInt8→Prop} (h:∀ n,n<256→P (UInt8.ofNat n)) (b:UInt8):P b:=by
 have:=h b.toNat b.toNat_lt
 rwa [UInt8.ofNat_toNat] at this
abbrev bsB (l:Bs):ByteArray:=⟨l.toArray⟩
theorem bsB_add (a b:Bs):bsB a++bsB b=bsB (a++b):=by
 apply ByteArray.ext
 rw[ByteArray.data_append]
 apply Array.ext'
 simp
theorem bsB_len (l:Bs):(bsB l).size=l.length:=rfl
open Go.RowKit Go.ChangeShapes
set_option maxRecDepth 100000
def signsL:List Bs:=[[60,61],[62,61],[60,62],[60],[62],[61],[43],[45],[42],[47],[40],[41],[44],[46]]
structure GV (w:World):Prop where
 size:12≤w.heap.size
 sg:∀ (i:Nat) (b:Bs),signsL[i]?=some b→w.cell? ⟨0,i,none⟩=some (.string (bsB b))
 sp:∀ c:Nat,c<256→w.cell? ⟨1,c,none⟩=some (.int .u8 (if Lib.isSp (UInt8.ofNat c) then 1 else 0))
 er:∃ t p,w.cell? ⟨4,0,none⟩=some (.iface t p)
theorem GV.below {w w':World} {n:Nat} (h:GV w) (hb:Below n w w') (hn:12≤n):GV w' where
 size:=Nat.le_trans h.size hb.size
 sg i b hi:=(hb.cell (p:=⟨0,i,none⟩) (by show 0<n;omega)).trans (h.sg i b hi)
 sp c hc:=(hb.cell (p:=⟨1,c,none⟩) (by show 1<n;omega)).trans (h.sp c hc)
 er:=by
  obtain⟨t,p,e⟩:=h.er
  exact⟨t,p,(hb.cell (p:=⟨4,0,none⟩) (by show 4<n;omega)).trans e⟩
theorem GV.on {w w':World} (h:GV w) (hb:Below w.heap.size w w'):GV w':=h.below hb h.size
theorem GV.alloc {w:World} (h:GV w) (o:Obj):GV (w.alloc o):=h.on (ext_alloc (ext_refl _) _)
theorem GV.set {w:World} (h:GV w) {a:Addr} (ha:12≤a.block) (v:Value):GV (w.setCell a v):=h.below ((Below.refl 12 w).setCell ha v) (Nat.le_refl _)
theorem Tryz.gSg:Tryz.prog.globalNamed "weathercock/lex.signs" = some 0:=by kernel_rfl
theorem Tryz.gSp:Tryz.prog.globalNamed "strings.asciiSpace" = some 1:=by kernel_rfl
theorem Tryz.gEr:Tryz.prog.globalNamed "strconv.ErrRange" = some 4:=by kernel_rfl
theorem Tryz.tSg:(Tryz.prog.globals[0]?).map (·.type)=some 120:=by kernel_rfl
theorem Tryz.tSp:(Tryz.prog.globals[1]?).map (·.type)=some 128:=by kernel_rfl
theorem Tryz.tEr:(Tryz.prog.globals[4]?).map (·.type)=some 116:=by kernel_rfl
theorem cells_of_texts {w:World} {base:Nat} {sp:Nat→Bool} {held:Bool} {fuel:Nat} {cs:List Value} {zs:List Bs} {p:List MemPlace}
  (h:DataW.trod (fun _=>()) Tryz.prog w base sp held fuel 120 cs=some (.agg (zs.map fun z=>.lit (.string z)),p)) (i:Nat) (b:Bs) (hi:zs[i]?=some b):cs[i]?=some (.string (bsB b)):=by
 obtain⟨xs,m,_,ex,_,hl,hel⟩:=DataW.trod_array Tryz.underlying120 h
 have c1:Tryz.prog.cellsOf 9=1:=by kernel_rfl
 have e3:xs.map (·.1)=zs.map fun z=>(.lit (.string z):DataW Unit):=(DataW.agg.inj (Prod.mk.inj ex).1).symm
 have e4:(xs.map (·.1))[i]?=some (.lit (.string b)):=by rw[e3,List.getElem?_map,hi];rfl
 rw[List.getElem?_map] at e4
 obtain⟨x,hx,hx1⟩:=Option.map_eq_some_iff.1 e4
 have hlt:i<xs.length:=(List.getElem?_eq_some_iff.1 hx).1
 have hE:=hel i (by omega)
 rw[hx] at hE
 obtain⟨s,e1,e2,_⟩:=DataW.trod_string Tryz.underlying9 hE
 rw[e2] at hx1
 simp only[DataW.lit.injEq,Lit.string.injEq] at hx1
 rw[c1,Nat.mul_one] at e1
 have h0:((cs.drop i).take 1)[0]?=some (.string s):=by rw[e1];rfl
 have h1:cs[i]?=some (.string s):=by simpa using h0
 rw[h1,show s=bsB b from by rw[← hx1]]
theorem GV.of_reads {W:World} (h0:12≤W.heap.size) (h1:Lib.VarReads Tryz.prog W "weathercock/lex.signs" Rows.laid_weathercock_lex_signs) (h2:Lib.VarReads Tryz.prog W "strings.asciiSpace" Rows.laid_strings_asciiSpace)
  (h3:Lib.VarReads Tryz.prog W "strconv.ErrRange" Rows.laid_strconv_ErrRange):GV W where
 size:=h0
 sg i b hi:=by
  obtain⟨g,t,cs,fuel,p,hg,ht,hv,hd⟩:=h1
  obtain rfl:=Option.some.inj (Tryz.gSg.symm.trans hg)
  obtain rfl:=Option.some.inj (Tryz.tSg.symm.trans ht)
  rw[World.var?_cell hg hv i]
  have e:(Rows.laid_weathercock_lex_signs:DataW Unit)=.agg (signsL.map fun z=>.lit (.string z)):=rfl
  rw[e] at hd
  simpa using cells_of_texts hd i b hi
 sp c hc:=by
  obtain⟨g,t,cs,fuel,p,hg,ht,hv,hd⟩:=h2
  obtain rfl:=Option.some.inj (Tryz.gSp.symm.trans hg)
  obtain rfl:=Option.some.inj (Tryz.tSp.symm.trans ht)
  rw[World.var?_cell hg hv c]
  have e:(Rows.laid_strings_asciiSpace:DataW Unit)=Lib.tabData .u8 Lib.asciiSpaceTab:=by kernel_rfl
  rw[e] at hd
  have hcs:=Lib.cells_of_tab Tryz.underlying128 Tryz.underlying5 (by kernel_rfl) (by kernel_rfl) hd
  have hl:c<Lib.asciiSpaceTab.length:=by rw[Lib.asciiSpaceTab_length];exact hc
  have:cs.toList[c]?=some (.int .u8 (Lib.asciiSpaceTab.getD c 0)):=by
   rw[hcs,List.getElem?_map,List.getElem?_eq_getElem hl,List.getD,List.getElem?_eq_getElem hl];rfl
  rw[Lib.asciiSpaceTab_at c hc] at this
  simpa using this
 er:=by
  obtain⟨g,t,cs,fuel,p,hg,ht,hv,hd⟩:=h3
  obtain rfl:=Option.some.inj (Tryz.gEr.symm.trans hg)
  obtain rfl:=Option.some.inj (Tryz.tEr.symm.trans ht)
  obtain⟨f1,u,v,e,_,_⟩:=iface_of_trod Tryz.underlying116 hd
  refine⟨u,v,?_⟩
  rw[World.var?_cell hg hv 0]
  have:cs.toList[0]?=some (.iface u v):=by rw[e];rfl
  simpa using this
open Go.RowKit
structure Out (S:Nat→Prop) (w w':World):Prop where
 os:w'.os=w.os
 tape:w'.tape=w.tape
 output:w'.output=w.output
 size:w.heap.size≤w'.heap.size
 block:∀ k,k<w.heap.size→¬ S k→w'.heap[k]?=w.heap[k]?
theorem Out.refl (S:Nat→Prop) (w:World):Out S w w:=⟨rfl,rfl,rfl,Nat.le_refl _,fun _ _ _=>rfl⟩
theorem Out.trans {S:Nat→Prop} {a b c:World} (h:Out S a b) (k:Out S b c):Out S a c :=
 ⟨k.os.trans h.os,k.tape.trans h.tape,k.output.trans h.output,Nat.le_trans h.size k.size,fun i hi hn=>(k.block i (Nat.lt_of_lt_of_le hi h.size) hn).trans (h.block i hi hn)⟩
theorem Out.mono {S T:Nat→Prop} {a b:World} (h:Out S a b) (hs:∀ k,k<a.heap.size→S k→T k):Out T a b :=
 ⟨h.os,h.tape,h.output,h.size,fun i hi hn=>h.block i hi fun k=>hn (hs i hi k)⟩
theorem Out.of {S:Nat→Prop} {a b:World} (h:Below a.heap.size a b):Out S a b:=⟨h.os,h.tape,h.output,h.size,fun i hi _=>h.block i hi⟩
theorem Out.grown {S:Nat→Prop} {a b:World} {r:Option Nat} (h:a.grownBy b r) (hr:∀ k,r=some k→S k):Out S a b:=⟨h.os,h.tape,h.output,h.size,fun i hi hn=>h.block i hi fun e=>hn (hr i e.symm)⟩
theorem Out.below {S:Nat→Prop} {a b:World} {N:Nat} (h:Out S a b) (hN:N≤a.heap.size) (hS:∀ k,S k→N≤k):Below N a b :=
 ⟨h.os,h.tape,h.output,h.size,fun i hi=>h.block i (Nat.lt_of_lt_of_le hi hN) fun k=>by have:=hS i k;omega⟩
theorem Out.set {S:Nat→Prop} {a:World} (p:Addr) (v:Value) (h:S p.block):Out S a (a.setCell p v) :=
 ⟨rfl,rfl,rfl,by simp[World.setCell],fun i _ hn=>Below.heap_setCell _ _ _ _ fun e=>hn (e ▸ h)⟩
theorem Out.alloc {S:Nat→Prop} (a:World) (o:Obj):Out S a (a.alloc o):=Out.of ((Below.refl _ _).alloc (Nat.le_refl _) o)
theorem Out.drew {S:Nat→Prop} (a:World):Out S a a.drew:=Out.of (Below.refl _ _).drew
open Go.RowKit
def ArrA {α:Type} (lo hi:Nat) (q:Option Addr) (sz:Nat) (l:List α) (P:Nat→Nat→α→Prop):Prop :=
 ∀ i,i<l.length→∃ g off,q=some ⟨g,off,none⟩∧lo≤g∧g<hi∧∀ j x,l[j]?=some x→P g (off+j*sz) x
theorem ArrA.imp {α:Type} {lo hi:Nat} {q:Option Addr} {sz:Nat} {l:List α} {P P':Nat→Nat→α→Prop} (h:ArrA lo hi q sz l P) (hp:∀ g o x,lo≤g→g<hi→P g o x→P' g o x):ArrA lo hi q sz l P':=fun i hi=>by
 obtain⟨g,off,h1,h2,h3,h4⟩:=h i hi
 exact⟨g,off,h1,h2,h3,fun j x hx=>hp _ _ _ h2 h3 (h4 j x hx)⟩
def strC (w:World) (g o:Nat) (s:ByteArray):Prop:=w.cell? ⟨g,o,none⟩=some (.string s)
def StrsA (w:World) (lo hi:Nat) (q:Option Addr) (l:List ByteArray):Prop:=ArrA lo hi q 1 l (strC w)
open Go.RowKit
section
variable {α:Type} {cells:α→List Value} {sz:Nat}
theorem flat_len (hcl:∀ x,(cells x).length=sz) (l:List α):(l.flatMap cells).length=l.length*sz:=by
 induction l with
 | nil=>simp
 | cons a l ih=>rw[List.flatMap_cons,List.length_append,hcl,ih,List.length_cons,Nat.add_mul];omega
theorem flat_get (hcl:∀ x,(cells x).length=sz) (h0:0<sz):∀ (l:List α) (j:Nat) (u:Value),(l.flatMap cells)[j]?=some u→∃ x,l[j / sz]?=some x∧(cells x)[j % sz]?=some u
 | [],j,u,h=>by simp at h
 | a :: l,j,u,h=>by
  rw[List.flatMap_cons] at h
  by_cases hj:j<sz
  ·rw[List.getElem?_append_left (by rw[hcl];exact hj)] at h
   exact⟨a,by rw[Nat.div_eq_of_lt hj];rfl,by rw[Nat.mod_eq_of_lt hj];exact h⟩
  ·rw[List.getElem?_append_right (by rw[hcl];omega),hcl] at h
   obtain⟨x,h1,h2⟩:=flat_get hcl h0 l (j - sz) u h
   have hjs:j=(j - sz)+sz:=by omega
   refine⟨x,?_,?_⟩
   ·rw[hjs,Nat.add_div_right _ h0]
    simpa using h1
   ·rw[hjs,Nat.add_mod_right]
    exact h2
theorem flat_at (hcl:∀ x,(cells x).length=sz):∀ (l:List α) (j k:Nat) (x:α) (u:Value),l[j]?=some x→(cells x)[k]?=some u→(l.flatMap cells)[j*sz+k]?=some u
 | [],j,k,x,u,h,_=>by simp at h
 | a :: l,0,k,x,u,h,hk=>by
  simp at h
  subst h
  have hl:=(List.getElem?_eq_some_iff.1 hk).1
  rw[List.flatMap_cons,Nat.zero_mul,Nat.zero_add,List.getElem?_append_left hl]
  exact hk
 | a :: l,j+1,k,x,u,h,hk=>by
  rw[List.flatMap_cons,List.getElem?_append_right (by rw[hcl,Nat.add_mul];omega),hcl,show (j+1)*sz+k - sz=j*sz+k by rw[Nat.add_mul];omega]
  exact flat_at hcl l j k x u (by simpa using h) hk
def OwnF (w:World) (base:Nat) (E:TypeId) (sz:Nat) (cells:α→List Value) (v:Value) (l:List α):Prop:=w.ownsRow base E sz v l.length (l.flatMap cells)
theorem OwnF.nil (w:World) (base:Nat) (E:TypeId):OwnF w base E sz cells (.slice none 0 0) []:=World.ownsRow_nil _ _ _ _
theorem OwnF.kept {S:Nat→Prop} {w w':World} {base:Nat} {E:TypeId} {v:Value} {l:List α} (h:OwnF w base E sz cells v l) (o:Out S w w') (hS:∀ k,S k→v.ownBlock≠some k):OwnF w' base E sz cells v l:=by
 obtain⟨h1,h2⟩:=h
 refine⟨h1,?_⟩
 rcases h2 with h2 |⟨g,cap,cur,hv,hg,hh,r⟩
 ·exact .inl h2
 ·have hlt:g<w.heap.size:=by
   rcases Nat.lt_or_ge g w.heap.size with h | h
   ·exact h
   ·rw[Array.getElem?_eq_none h] at hh;cases hh
  exact .inr ⟨g,cap,cur,hv,hg,by rw[o.block g hlt (fun k=>hS g k (by rw[hv];rfl))];exact hh,r⟩
theorem OwnF.later {w w':World} {base:Nat} {E:TypeId} {v:Value} {l:List α} (h:OwnF w base E sz cells v l) (hb:Below w.heap.size w w'):OwnF w' base E sz cells v l:=h.kept (Out.of (S:=fun _=>False) hb) (fun _ h=>h.elim)
theorem OwnF.base_le {w:World} {b b':Nat} {E:TypeId} {v:Value} {l:List α} (h:OwnF w b E sz cells v l) (hb:b'≤b):OwnF w b' E sz cells v l:=by
 obtain⟨h1,h2⟩:=h
 refine⟨h1,?_⟩
 rcases h2 with h2 |⟨g,cap,cur,hv,hg,r⟩
 ·exact .inl h2
 ·exact .inr ⟨g,cap,cur,hv,Nat.le_trans hb hg,r⟩
theorem OwnF.arr {w:World} {base:Nat} {E:TypeId} {v:Value} {l:List α} (hcl:∀ x,(cells x).length=sz) (h:OwnF w base E sz cells v l) :
  ∃ q c,v=.slice q l.length c∧l.length≤c∧c≤9223372036854775807∧(∀ g off,q=some ⟨g,off,none⟩→off=0∧base≤g∧g<w.heap.size∧∀ o,w.frozen? ⟨g,o,none⟩=false)∧ArrA base w.heap.size q sz l (fun g o x=>∀ (k:Nat) u,(cells x)[k]?=some u→w.cell? ⟨g,o+k,none⟩=some u):=by
 obtain⟨h1,h2⟩:=h
 rcases h2 with ⟨rfl,h0⟩ |⟨g,cap,cur,rfl,hb,hg,hn,hm,hc,ht⟩
 ·exact⟨none,0,by rw[h0],by omega,by omega,(fun g off h=>by cases h),fun i hi=>by omega⟩
 ·have hlt:g<w.heap.size:=by
   rcases Nat.lt_or_ge g w.heap.size with h | h
   ·exact h
   ·rw[Array.getElem?_eq_none h] at hg;cases hg
  refine⟨some ⟨g,0,none⟩,cap,rfl,hn,by unfold maxLen at hm;omega,fun g' off h=>?_,fun i hi=>⟨g,0,rfl,hb,hlt,fun j x hj k u hu=>?_⟩⟩
  ·obtain⟨rfl,rfl⟩:g=g'∧0=off:=by simpa using h
   exact⟨rfl,hb,hlt,fun o=>by rw[Lib.frozen_of_heap hg];try simp⟩
  ·have hf:=flat_at hcl l j k x u hj hu
   have hjl:j*sz+k<l.length*sz:=by
    have:=(List.getElem?_eq_some_iff.1 hf).1
    rwa [flat_len hcl] at this
   rw[Lib.cell_of_heap hg,Nat.zero_add]
   have:=congrArg (fun l=>l[j*sz+k]?) ht
   simp only[List.getElem?_take,if_pos hjl] at this
   rw[← Array.getElem?_toList,this]
   exact hf
theorem wp_append_flat {w:World} {ops:Array Oper} {rest:List Oper} {o:Oper} {a:Act} {Q:Exit→Act→World→Prop} (hgd:o.guard=none) (s x:Operand) (T E:TypeId) (ho:o.op=.call { callee:=.builtin .append,args:=#[s,x],argTypes:=#[T,T] })
  (hT:Tryz.prog.underlying T=some (.slice E)) (z:Value) (bytes:Nat) (hI:(Tryz.prog.info? E).map (fun i=>(i.zero,i.size,i.bytes))=some (some z,sz,bytes)) (hzs:z.cells.size=sz) (h0:0<sz)
  (hcl:∀ x:α,(cells x).length=sz) (h1:∀ (x:α) (u:Value),u∈cells x→u.oneCell'=true)
  (base:Nat) (v:Value) (l:List α) (hs:a.eval s=v) (hown:OwnF w base E sz cells v l) (p:Option Addr) (n c:Nat) (m:List α) (hn:n=m.length) (hx:a.eval x=.slice p n c)
  (lo hi:Nat) (hR:ArrA lo hi p sz m (fun g o x=>∀ (k:Nat) u,(cells x)[k]?=some u→w.cell? ⟨g,o+k,none⟩=some u)) (hlen:l.length+m.length≤maxLen) (hbytes:(l.length+m.length)*bytes≤140737488355328) (hbase:base≤w.heap.size)
  (h:∀ v' w',OwnF w' base E sz cells v' (l++m)→Below base w w'→Out (fun k=>v.ownBlock=some k) w w'→wpList Tryz.prog ops Q rest (a.put o.dst v') w'):wpList Tryz.prog ops Q (o :: rest) a w:=by
 subst hn
 obtain⟨i0,hi0,hz0,hz1,hz2⟩:=info_parts hI
 have go:∀ ad:Addr,p=some ad→(∀ (j:Nat) (u:Value),(m.flatMap cells)[j]?=some u→w.cell? (ad.add j)=some u)→wpList Tryz.prog ops Q (o :: rest) a w:=by
  intro ad hp hcells
  subst hp
  refine wpList_append_own w hgd s x T ho base E i0 z sz bytes hT hi0 hz0 hz1 hz2 hzs h0 v l.length _ hs hown ad m.length c (m.flatMap cells) hx (flat_len hcl m) hcells ?_ hlen hbytes hbase ?_
  ·intro u hu
   obtain⟨x,_,hx⟩:=List.mem_flatMap.1 hu
   exact h1 x u hx
  ·intro v' w' h2 h3 _
   refine h v' w' ?_ ((Below.refl _ _).grown h3 hbase fun k hk=>(hown.lt _ hk).1) (Out.grown h3 fun k hk=>hk)
   unfold OwnF
   rw[List.length_append,List.flatMap_append]
   exact h2
 by_cases hm:0<m.length
 ·obtain⟨b,off,rfl,_,_,hc⟩:=hR 0 hm
  refine go _ rfl fun j u hj=>?_
  obtain⟨y,hy,hk⟩:=flat_get hcl h0 m j u hj
  have:=hc (j / sz) y hy (j % sz) u hk
  have e:off+j / sz*sz+j % sz=off+j:=by rw[Nat.add_assoc,Nat.div_add_mod']
  rw[e] at this
  unfold Addr.add
  split
  ·rename_i hj0;subst hj0;exact this
  ·exact this
 ·obtain rfl:m=[]:=List.length_eq_zero_iff.1 (by omega)
  cases p with
  | none =>
   obtain⟨q,cap,rfl,hcap,_,_⟩:=hown.arr hcl
   have hr:=run_append_nothing (P:=Tryz.prog) w T T o.type E i0 hT hi0 q l.length cap hcap (.slice none 0 c) ⟨.inl ⟨_,hT⟩,fun _=>rfl,run_firstCells_none w _ 0 0 c,run_firstCells_none w.drew _ 0 0 c,by simp,by simp⟩
   refine wpList_plain hgd fun K hK=>?_
   unfold Oper.wp execOp
   simp only[ho,resolve,invoke,builtin,Sem.run_bind,Sem.run_pure,Result.andThen_ok,List.map_toArray,List.map_cons,List.map_nil,hs,hx,List.length_nil,hr]
   exact hK _ _ (h _ _ (by simpa using hown) (Below.refl _ _) (Out.refl _ _))
  | some ad=>exact go ad rfl (fun j u hj=>by simp at hj)
end
theorem one_block {W:World} {α:Type} {cells:α→List Value} {sz:Nat} (_:∀ x,(cells x).length=sz) (E:TypeId) (cs:Array Value) (x:α) (hx:cs.toList=cells x) (b:Nat) (hb:b=W.heap.size) :
  ArrA 0 (b+1) (some ⟨b,0,none⟩) sz [x] (fun g o r=>∀ (k:Nat) u,(cells r)[k]?=some u→(W.alloc (.cells cs E)).cell? ⟨g,o+k,none⟩=some u):=fun j hj=>⟨b,0,rfl,Nat.zero_le _,by omega,fun n r hr k u hk=>by
 subst hb
 have hn:n=0:=by have:=(List.getElem?_eq_some_iff.1 hr).1;simp at this;omega
 subst hn
 simp only[List.getElem?_cons_zero,Option.some.injEq] at hr
 subst hr
 rw[Lib.cell_of_heap (heap_alloc_new W _)]
 rw[← hx] at hk
 simpa using hk⟩
section
variable {α:Type} {cells:α→List Value} {sz:Nat}
theorem run_append_flat (w:World) (T E ty:TypeId) (hT:Tryz.prog.underlying T=some (.slice E)) (z:Value) (bytes:Nat) (hI:(Tryz.prog.info? E).map (fun i=>(i.zero,i.size,i.bytes))=some (some z,sz,bytes)) (hzs:z.cells.size=sz) (h0:0<sz)
  (hcl:∀ x:α,(cells x).length=sz) (h1:∀ (x:α) (u:Value),u∈cells x→u.oneCell'=true)
  (base:Nat) (v:Value) (l:List α) (hown:OwnF w base E sz cells v l) (p:Option Addr) (n c:Nat) (m:List α) (hn:n=m.length)
  (lo hi:Nat) (hR:ArrA lo hi p sz m (fun g o x=>∀ (k:Nat) u,(cells x)[k]?=some u→w.cell? ⟨g,o+k,none⟩=some u)) (hlen:l.length+m.length≤maxLen) (hbytes:(l.length+m.length)*bytes≤140737488355328) (hbase:base≤w.heap.size) :
  ∃ v' w',(Builtin.append_ #[T,T] ty #[v,.slice p n c]).run Tryz.prog w=.ok v' w'∧OwnF w' base E sz cells v' (l++m)∧Below base w w'∧Out (fun k=>v.ownBlock=some k) w w'∧(v'.ownBlock=v.ownBlock∨v'.ownBlock=some w.heap.size):=by
 subst hn
 obtain⟨i0,hi0,hz0,hz1,hz2⟩:=info_parts hI
 have go:∀ ad:Addr,p=some ad→(∀ (j:Nat) (u:Value),(m.flatMap cells)[j]?=some u→w.cell? (ad.add j)=some u)→∃ v' w',(Builtin.append_ #[T,T] ty #[v,.slice p m.length c]).run Tryz.prog w=.ok v' w'∧OwnF w' base E sz cells v' (l++m)∧Below base w w'∧Out (fun k=>v.ownBlock=some k) w w'∧(v'.ownBlock=v.ownBlock∨v'.ownBlock=some w.heap.size):=by
  intro ad hp hcells
  subst hp
  obtain⟨v',w',hr,h2,h3,_,h5⟩:=run_append_own_at (P:=Tryz.prog) w base T ty E i0 z sz bytes hT hi0 hz0 hz1 hz2 hzs h0 v l.length _ hown ad m.length c (m.flatMap cells) (flat_len hcl m) hcells (fun u hu=>by
   obtain⟨x,_,hx⟩:=List.mem_flatMap.1 hu
   exact h1 x u hx) hlen hbytes hbase
  refine⟨v',w',hr,?_,(Below.refl _ _).grown h3 hbase fun k hk=>(hown.lt _ hk).1,Out.grown h3 fun k hk=>hk,h5⟩
  unfold OwnF
  rw[List.length_append,List.flatMap_append]
  exact h2
 by_cases hm:0<m.length
 ·obtain⟨b,off,rfl,_,_,hc⟩:=hR 0 hm
  refine go _ rfl fun j u hj=>?_
  obtain⟨y,hy,hk⟩:=flat_get hcl h0 m j u hj
  have:=hc (j / sz) y hy (j % sz) u hk
  have e:off+j / sz*sz+j % sz=off+j:=by rw[Nat.add_assoc,Nat.div_add_mod']
  rw[e] at this
  unfold Addr.add
  split
  ·rename_i hj0;subst hj0;exact this
  ·exact this
 ·obtain rfl:m=[]:=List.length_eq_zero_iff.1 (by omega)
  cases p with
  | none =>
   obtain⟨q,cap,rfl,hcap,_,_⟩:=hown.arr hcl
   have hr:=run_append_nothing (P:=Tryz.prog) w T T ty E i0 hT hi0 q l.length cap hcap (.slice none 0 c) ⟨.inl ⟨_,hT⟩,fun _=>rfl,run_firstCells_none w _ 0 0 c,run_firstCells_none w.drew _ 0 0 c,by simp,by simp⟩
   exact⟨_,_,hr,by simpa using hown,Below.refl _ _,Out.refl _ _,.inl rfl⟩
  | some ad=>exact go ad rfl (fun j u hj=>by simp at hj)
theorem step_append_flat {w:World} {ops:Array Oper} {o:Oper} {a:Act} {K:Act→World→Prop} {Q:Exit→Act→World→Prop} {R:Prop} (hgd:o.guard=none) (s x:Operand) (T E:TypeId) (ho:o.op=.call { callee:=.builtin .append,args:=#[s,x],argTypes:=#[T,T] })
  (hT:Tryz.prog.underlying T=some (.slice E)) (z:Value) (bytes:Nat) (hI:(Tryz.prog.info? E).map (fun i=>(i.zero,i.size,i.bytes))=some (some z,sz,bytes)) (hzs:z.cells.size=sz) (h0:0<sz)
  (hcl:∀ x:α,(cells x).length=sz) (h1:∀ (x:α) (u:Value),u∈cells x→u.oneCell'=true)
  (base:Nat) (v:Value) (l:List α) (hs:a.eval s=v) (hown:OwnF w base E sz cells v l) (p:Option Addr) (n c:Nat) (m:List α) (hn:n=m.length) (hx:a.eval x=.slice p n c)
  (lo hi:Nat) (hR:ArrA lo hi p sz m (fun g o x=>∀ (k:Nat) u,(cells x)[k]?=some u→w.cell? ⟨g,o+k,none⟩=some u)) (hlen:l.length+m.length≤maxLen) (hbytes:(l.length+m.length)*bytes≤140737488355328) (hbase:base≤w.heap.size)
  (h:∀ q c' w',OwnF w' base E sz cells (.slice q (l++m).length c') (l++m)→Below base w w'→Out (fun k=>v.ownBlock=some k) w w'→((Value.slice q (l++m).length c').ownBlock=v.ownBlock∨(Value.slice q (l++m).length c').ownBlock=some w.heap.size)→K (a.put o.dst (.slice q (l++m).length c')) w') :
  if Region.wanted o (yielded ops a.tmps)=true then Oper.wp Tryz.prog o a w K Q else R:=by
 have hw:Region.wanted o (yielded ops a.tmps)=true:=by simp[Region.wanted,hgd]
 rw[if_pos hw]
 obtain⟨v',w',hr,h2,h3,h4,h5⟩:=run_append_flat w T E o.type hT z bytes hI hzs h0 hcl h1 base v l hown p n c m hn lo hi hR hlen hbytes hbase
 obtain⟨q,c',rfl,_⟩:=h2.arr hcl
 unfold Oper.wp execOp
 simp only[ho,resolve,invoke,builtin,Sem.run_bind,Sem.run_pure,Result.andThen_ok,List.map_toArray,List.map_cons,List.map_nil,hs,hx,hr]
 exact h q c' w' h2 h3 h4 h5
end
open Go.RowKit
set_option maxRecDepth 100000
abbrev tokCell (t:Tok):List Value:=[.int .i64 (t.kd:Int),.int .i64 (t.n:Int),.int .i64 (t.at_:Int),.string (bsB t.s)]
theorem tokCell_len (t:Tok):(tokCell t).length=4:=rfl
theorem tokCell_one (t:Tok) (u:Value) (h:u∈tokCell t):u.oneCell'=true:=by simp at h;rcases h with rfl | rfl | rfl | rfl <;> rfl
structure LexC:Prop where
 good:∀ (s:ByteArray) (L:List Tok) (w:World),GV w→s.size≤9223372036854775807→lexS s.data.toList=.ok L →
  Calls Tryz.prog 8 #[.string s] w fun e w'=>(∃ q c,e=.returned (.tuple #[.slice q L.length c,.int .i64 0,.int .i64 0])∧OwnF w' w.heap.size 55 4 tokCell (.slice q L.length c) L)∧Below w.heap.size w w'
 bad:∀ (s:ByteArray) (er a:Nat) (w:World),GV w→s.size≤9223372036854775807→lexS s.data.toList=.err er a →
  Calls Tryz.prog 8 #[.string s] w fun e w'=>(∃ q c,e=.returned (.tuple #[.slice q 0 c,.int .i64 (er:Int),.int .i64 (a:Int)]))∧Below w.heap.size w w'
structure TokC (w:World) (g o:Nat) (t:Tok):Prop where
 c0:w.cell? ⟨g,o,none⟩=some (.int .i64 (t.kd:Int))
 c1:w.cell? ⟨g,o+1,none⟩=some (.int .i64 (t.n:Int))
 c2:w.cell? ⟨g,o+2,none⟩=some (.int .i64 (t.at_:Int))
 c3:w.cell? ⟨g,o+3,none⟩=some (.string (bsB t.s))
theorem OwnF.toks {w:World} {base:Nat} {q:Option Addr} {n c:Nat} {L:List Tok} (h:OwnF w base 55 4 tokCell (.slice q n c) L):n=L.length∧L.length≤c∧c≤9223372036854775807∧ArrA base w.heap.size q 4 L (TokC w):=by
 obtain⟨q',c',e,h1,h2,_,h4⟩:=h.arr tokCell_len
 simp only[Value.slice.injEq] at e
 obtain⟨rfl,rfl,rfl⟩:=e
 exact⟨rfl,h1,h2,ArrA.imp h4 fun _ _ _ _ _ h=>⟨h 0 _ rfl,h 1 _ rfl,h 2 _ rfl,h 3 _ rfl⟩⟩
inductive Ex where
 | mk (op:Int) (v:Val) (rel col n:Int) (s:ByteArray) (l:List Ex)
def zeroVal:Val:=⟨0,0,⟨#[]⟩⟩
mutual
def Ex.deep:Ex→Nat
 | .mk _ _ _ _ _ _ l=>deepL l+1
def deepL:List Ex→Nat
 | []=>0
 | x :: r=>max x.deep (deepL r)
end
end Go.Proofs.YtapbglhjamddbaaGreatDoor
