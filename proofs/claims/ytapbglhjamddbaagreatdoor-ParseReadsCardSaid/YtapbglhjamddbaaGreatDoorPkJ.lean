/- A part of the proof. -/
import Derived.Test.YtapbglhjamddbaaGreatDoorKb
namespace Go.Proofs.YtapbglhjamddbaaGreatDoor
inductive PR (α:Type) where
 | err (e a:Nat)
 | ok (x:α) (r:List Tok)
abbrev Rd (α:Type):=List Tok→PR α
def PR.map {α β:Type} (f:α→β):PR α→PR β
 | .err e a=>.err e a
 | .ok x r=>.ok (f x) r
def PR.bind {α β:Type} (x:PR α) (f:α→List Tok→PR β):PR β :=
 match x with
 | .err e a=>.err e a
 | .ok x r=>f x r
def hAt (z:Nat):List Tok→Nat
 | []=>z
 | t :: _=>t.at_
def hSees (s:Bs):List Tok→Bool
 | []=>false
 | t :: _=>(t.kd == 1 || t.kd == 6) && t.s == s
def need {α:Type} (z:Nat) (s:Bs) (l:List Tok) (f:List Tok→PR α):PR α:=if hSees s l then f l.tail else .err 7 (hAt z l)
abbrev Ops:=List (Bs × Int)
def opOf:Ops→List Tok→Option Int
 | [],_=>none
 |(s,op) :: r,l=>if hSees s l then some op else opOf r l
def exZ:Ex:=.mk 0 zeroVal 0 0 0 ⟨#[]⟩ []
def exTwo (op:Int) (a b:Ex):Ex:=.mk op zeroVal 0 0 0 ⟨#[]⟩ [a,b]
def exOne (op:Int) (a:Ex):Ex:=.mk op zeroVal 0 0 0 ⟨#[]⟩ [a]
def exKon (v:Val):Ex:=.mk 1 v 0 0 0 ⟨#[]⟩ []
def txtV (s:Bs):Val:=⟨3,0,bsB s⟩
def kwOr:Bs:=[111,114]
def kwAnd:Bs:=[97,110,100]
def kwNot:Bs:=[110,111,116]
def kwIs:Bs:=[105,115]
def kwNull:Bs:=[110,117,108,108]
def kwTrue:Bs:=[116,114,117,101]
def kwFalse:Bs:=[102,97,108,115,101]
def kwCount:Bs:=[99,111,117,110,116]
def kwSum:Bs:=[115,117,109]
def kwMin:Bs:=[109,105,110]
def kwMax:Bs:=[109,97,120]
def kwSelect:Bs:=[115,101,108,101,99,116]
def kwDistinct:Bs:=[100,105,115,116,105,110,99,116]
def kwFrom:Bs:=[102,114,111,109]
def kwJoin:Bs:=[106,111,105,110]
def kwLeft:Bs:=[108,101,102,116]
def kwSemi:Bs:=[115,101,109,105]
def kwOn:Bs:=[111,110]
def kwWhere:Bs:=[119,104,101,114,101]
def kwGroup:Bs:=[103,114,111,117,112]
def kwBy:Bs:=[98,121]
def kwUnion:Bs:=[117,110,105,111,110]
def kwAll:Bs:=[97,108,108]
def kwOrder:Bs:=[111,114,100,101,114]
def kwDesc:Bs:=[100,101,115,99]
def opsOr:Ops:=[(kwOr,16)]
def opsAnd:Ops:=[(kwAnd,15)]
def opsSum:Ops:=[([43],4),([45],5)]
def opsProd:Ops:=[([42],6),([47],7)]
def opsCmp:Ops:=[([61],9),([60,62],10),([60],11),([60,61],12),([62],13),([62,61],14)]
def chainF (one:Rd Ex) (ops:Ops):Nat→Ex→List Tok→PR Ex
 | 0,e,l=>.ok e l
 | k+1,e,l=>match opOf ops l with
  | none=>.ok e l
  | some op=>(one l.tail).bind fun y r=>chainF one ops k (exTwo op e y) r
def chainW (one:Rd Ex) (ops:Ops) (e:Ex) (l:List Tok):PR Ex:=chainF one ops l.length e l
def chain (one:Rd Ex) (ops:Ops) (l:List Tok):PR Ex:=(one l).bind (chainW one ops)
def bAnd (nt:Rd Ex):Rd Ex:=chain nt opsAnd
def bOr (nt:Rd Ex):Rd Ex:=chain (bAnd nt) opsOr
def bProd (sg:Rd Ex):Rd Ex:=chain sg opsProd
def bSum (sg:Rd Ex):Rd Ex:=chain (bProd sg) opsSum
def bNull (z:Nat) (x:Ex) (l:List Tok):PR Ex :=
 if hSees kwNot l then need z kwNull l.tail (fun r=>.ok (exOne 17 (exOne 18 x)) r) else need z kwNull l (fun r=>.ok (exOne 18 x) r)
def bTest (z:Nat) (sg:Rd Ex) (l:List Tok):PR Ex :=
 (bSum sg l).bind fun x r=>if hSees kwIs r then bNull z x r.tail else
  match opOf opsCmp r with
  | none=>.ok x r
  | some op=>(bSum sg r.tail).map (exTwo op x)
def bCol (z:Nat) (s:Bs) (l:List Tok):PR Ex :=
 if hSees [46] l then
  match l.tail with
  | []=>.err 7 z
  | t :: r=>if t.kd=2 then .ok (.mk 19 (txtV t.s) 0 0 0 (bsB s) []) r else .err 7 t.at_
 else .ok (.mk 19 (txtV s) 0 0 0 ⟨#[]⟩ []) l
def bAtom (z:Nat) (orr:Rd Ex):Rd Ex
 | []=>.err 7 z
 | t :: r =>
  if t.kd=3 then .ok (exKon ⟨1,t.n,⟨#[]⟩⟩) r
  else if t.kd=4 then .ok (exKon (txtV t.s)) r
  else if t.kd=5 then .ok (.mk 3 zeroVal 0 0 t.n ⟨#[]⟩ []) r
  else if t.kd=2 then bCol z t.s r
  else if hSees kwTrue (t :: r) then .ok (exKon ⟨2,1,⟨#[]⟩⟩) r
  else if hSees kwFalse (t :: r) then .ok (exKon ⟨2,0,⟨#[]⟩⟩) r
  else if hSees kwNull (t :: r) then .ok (exKon zeroVal) r
  else if hSees [40] (t :: r) then (orr r).bind fun x r2=>need z [41] r2 (fun r3=>.ok x r3)
  else .err 7 t.at_
structure Lev where
 o:Rd Ex
 n:Rd Ex
 s:Rd Ex
def lev (z:Nat):Nat→Lev
 | 0=>⟨fun l=>.err 5 (hAt z l),fun l=>.err 5 (hAt z l),fun l=>.err 5 (hAt z l)⟩
 | n+1=>⟨bOr (lev z n).n,fun l=>if hSees kwNot l then ((lev z n).n l.tail).map (exOne 17) else bTest z (lev z n).s l,fun l=>if hSees [45] l then ((lev z n).s l.tail).map (exOne 8) else bAtom z (lev z n).o l⟩
def listF {α:Type} (z:Nat) (one:Rd α):Nat→List α→List Tok→PR (List α)
 | 0,acc,l=>.ok acc l
 | k+1,acc,l=>if hSees [44] l then (if acc.length=8 then .err 5 (hAt z l.tail) else (one l.tail).bind fun x r=>listF z one k (acc++[x]) r) else .ok acc l
def listW {α:Type} (z:Nat) (one:Rd α) (acc:List α) (l:List Tok):PR (List α):=listF z one l.length acc l
def listP {α:Type} (z:Nat) (one:Rd α) (l:List Tok):PR (List α):=(one l).bind fun x r=>listW z one [x] r
structure It where
 agg:Int
 e:Ex
structure Fr where
 table:Bs
 alias:Bs
 kind:Int
 on:List Ex
structure Sel where
 distinct:Bool
 items:List It
 froms:List Fr
 where_:List Ex
 group:List Ex
structure Ky where
 col:Int
 desc:Bool
structure Qu where
 sels:List Sel
 order:List Ky
def opsAgg:Ops:=[(kwCount,2),(kwSum,3),(kwMin,4),(kwMax,5)]
def bItem (z:Nat) (orr:Rd Ex) (l:List Tok):PR It :=
 match opOf opsAgg l with
 | none=>(orr l).map (It.mk 0)
 | some a=>need z [40] l.tail fun r=>if a=2∧hSees [42] r=true then need z [41] r.tail (fun r2=>.ok ⟨1,exZ⟩ r2) else (orr r).bind fun x r2=>need z [41] r2 (fun r3=>.ok ⟨a,x⟩ r3)
def bKey (z:Nat):Rd Ky
 | []=>.err 7 z
 | t :: r=>if t.kd=3 then (if hSees kwDesc r then .ok ⟨(t.n:Int) - 1,true⟩ r.tail else .ok ⟨(t.n:Int) - 1,false⟩ r) else .err 7 t.at_
def bAlias (kind:Int) (s:Bs):Rd Fr
 | []=>.ok ⟨s,s,kind,[]⟩ []
 | u :: r=>if u.kd=2 then .ok ⟨s,u.s,kind,[]⟩ r else .ok ⟨s,s,kind,[]⟩ (u :: r)
def bTable (z:Nat) (kind:Int) (ahead most:Nat):Rd Fr
 | []=>.err 7 z
 | t :: r=>if t.kd=2 then (if ahead=most then .err 5 t.at_ else bAlias kind t.s r) else .err 7 t.at_
def bJoin (z:Nat) (orr:Rd Ex) (kind:Int) (ahead most:Nat) (l:List Tok):PR Fr :=
 need z kwJoin l fun r=>(bTable z kind ahead most r).bind fun f r2=>need z kwOn r2 fun r3=>(orr r3).map fun x=>{ f with on:=[x] }
def bInner (z:Nat) (orr:Rd Ex) (ahead:Nat) (l:List Tok):PR Fr :=
 if hSees [44] l then bTable z 0 ahead 4 l.tail else bJoin z orr 0 ahead 4 l
def bOuter (z:Nat) (orr:Rd Ex) (ahead:Nat) (l:List Tok):PR Fr :=
 if hSees kwLeft l then bJoin z orr 1 ahead 2 l.tail else need z kwSemi l fun r=>bJoin z orr 2 ahead 2 r
def moreF (a b:Bs) (one:Nat→Rd Fr):Nat→List Fr→List Tok→PR (List Fr)
 | 0,acc,l=>.ok acc l
 | k+1,acc,l=>if hSees a l || hSees b l then (one acc.length l).bind fun x r=>moreF a b one k (acc++[x]) r else .ok acc l
def moreW (a b:Bs) (one:Nat→Rd Fr) (acc:List Fr) (l:List Tok):PR (List Fr):=moreF a b one l.length acc l
def bTables (z:Nat) (orr:Rd Ex) (l:List Tok):PR (List Fr) :=
 (bTable z 0 0 4 l).bind fun f r=>(moreW [44] kwJoin (bInner z orr) [f] r).bind fun c r2=>(moreW kwLeft kwSemi (bOuter z orr) [] r2).map fun o=>c++o
def bDist (l:List Tok):Bool × List Tok:=if hSees kwDistinct l then (true,l.tail) else (false,l)
def bWhere (orr:Rd Ex) (l:List Tok):PR (List Ex):=if hSees kwWhere l then (orr l.tail).map (fun x=>[x]) else .ok [] l
def bGroup (z:Nat) (orr:Rd Ex) (l:List Tok):PR (List Ex):=if hSees kwGroup l then need z kwBy l.tail (listP z orr) else .ok [] l
def bSel2 (z:Nat) (orr:Rd Ex) (l:List Tok):PR Sel :=
 (listP z (bItem z orr) (bDist l).2).bind fun i r=>need z kwFrom r fun r2=>(bTables z orr r2).bind fun f r3=>(bWhere orr r3).bind fun w r4=>(bGroup z orr r4).map fun g=>⟨(bDist l).1,i,f,w,g⟩
def bSel (z:Nat) (orr:Rd Ex) (ahead:Nat) (l:List Tok):PR Sel :=
 need z kwSelect l fun r=>if ahead=4 then .err 5 (hAt z l) else bSel2 z orr r
def selsF (z:Nat) (orr:Rd Ex):Nat→List Sel→List Tok→PR (List Sel)
 | 0,acc,l=>.ok acc l
 | k+1,acc,l=>if hSees kwUnion l then need z kwAll l.tail fun r=>(bSel z orr acc.length r).bind fun x r2=>selsF z orr k (acc++[x]) r2 else .ok acc l
def selsW (z:Nat) (orr:Rd Ex) (acc:List Sel) (l:List Tok):PR (List Sel):=selsF z orr l.length acc l
def bOrder (z:Nat) (l:List Tok):PR (List Ky):=if hSees kwOrder l then need z kwBy l.tail (listP z (bKey z)) else .ok [] l
def bEnd {α:Type} (x:α):Rd α
 | []=>.ok x []
 | t :: _=>.err 7 t.at_
def bQuery (z:Nat) (orr:Rd Ex) (l:List Tok):PR Qu :=
 (bSel z orr 0 l).bind fun s r=>(selsW z orr [s] r).bind fun ss r2=>(bOrder z r2).bind fun o r3=>bEnd ⟨ss,o⟩ r3
inductive PQ where
 | err (e a:Nat)
 | ok (q:Qu)
def parseS (s:Bs):PQ :=
 match lexS s with
 | .err e a=>.err e a
 | .ok L=>match bQuery s.length (lev s.length 60).o L with
  | .err e a=>.err e a
  | .ok q _=>.ok q
theorem bind_ok {α β:Type} (x:α) (r:List Tok) (f:α→List Tok→PR β):(PR.ok x r).bind f=f x r:=rfl
theorem map_bind {α β:Type} (g:α→β) (x:PR α):x.map g=x.bind fun y r=>.ok (g y) r:=by cases x <;> rfl
theorem bind_eq_ok {α β:Type} {x:PR α} {f:α→List Tok→PR β} {y:β} {r:List Tok} (h:x.bind f=.ok y r):∃ z r1,x=.ok z r1∧f z r1=.ok y r:=by
 cases x with
 | err e a=>cases h
 | ok z r1=>exact⟨z,r1,rfl,h⟩
theorem map_eq_ok {α β:Type} {x:PR α} {f:α→β} {y:β} {r:List Tok} (h:x.map f=.ok y r):∃ z,x=.ok z r∧y=f z:=by
 cases x with
 | err e a=>cases h
 | ok z r1=>cases h;exact⟨z,rfl,rfl⟩
theorem sees_cons {s:Bs} {l:List Tok} (h:hSees s l=true):∃ t r,l=t :: r∧(t.kd=1∨t.kd=6)∧t.s=s:=by
 cases l with
 | nil=>cases h
 | cons t r =>
  refine⟨t,r,rfl,?_⟩
  simpa [hSees] using h
theorem opOf_cons {ops:Ops} {l:List Tok} {op:Int} (h:opOf ops l=some op):∃ t r,l=t :: r:=by
 induction ops with
 | nil=>cases h
 | cons a ops ih =>
  unfold opOf at h
  split at h
  ·rename_i hs
   obtain⟨t,r,e,_⟩:=sees_cons hs
   exact⟨t,r,e⟩
  ·exact ih h
theorem opOf_nil (ops:Ops):opOf ops []=none:=by
 cases h:opOf ops [] with
 | none=>rfl
 | some op=>obtain⟨t,r,e⟩:=opOf_cons h;cases e
theorem need_ok {α:Type} {z:Nat} {s:Bs} {l:List Tok} {f:List Tok→PR α} {x:α} {r:List Tok} (h:need z s l f=.ok x r):∃ t l',l=t :: l'∧hSees s l=true∧f l'=.ok x r:=by
 unfold need at h
 split at h
 ·rename_i hs
  obtain⟨t,r',e,_⟩:=sees_cons hs
  subst e
  exact⟨t,r',rfl,hs,h⟩
 ·cases h
def Shr {α:Type} (f:Rd α):Prop:=∀ l x r,f l=.ok x r→∃ p,l=p++r∧p≠[]
def Keep {α:Type} (f:Rd α):Prop:=∀ l x r,f l=.ok x r→∃ p,l=p++r
theorem Shr.keep {α:Type} {f:Rd α} (h:Shr f):Keep f:=fun l x r e=>(h l x r e).imp fun _ h=>h.1
theorem Shr.len {α:Type} {f:Rd α} (h:Shr f) {l:List Tok} {x:α} {r:List Tok} (e:f l=.ok x r):r.length<l.length:=by
 obtain⟨p,rfl,hp⟩:=h l x r e
 have:=List.length_pos_iff.2 hp
 rw[List.length_append]
 omega
theorem Keep.len {α:Type} {f:Rd α} (h:Keep f) {l:List Tok} {x:α} {r:List Tok} (e:f l=.ok x r):r.length≤l.length:=by
 obtain⟨p,rfl⟩:=h l x r e
 rw[List.length_append]
 omega
theorem chainF_keep {one:Rd Ex} (h1:Keep one) (ops:Ops):∀ (k:Nat) (e:Ex),Keep (chainF one ops k e)
 | 0,e,l,x,r,h=>by cases h;exact⟨[],rfl⟩
 | k+1,e,l,x,r,h=>by
  unfold chainF at h
  cases ho:opOf ops l with
  | none=>rw[ho] at h;cases h;exact⟨[],rfl⟩
  | some op =>
   rw[ho] at h
   obtain⟨t,l',rfl⟩:=opOf_cons ho
   obtain⟨y,r1,e1,e2⟩:=bind_eq_ok h
   obtain⟨p,hp⟩:=h1 _ _ _ e1
   obtain⟨p2,hp2⟩:=chainF_keep h1 ops k _ _ _ _ e2
   exact⟨t :: p++p2,by simp only[List.tail_cons] at hp;rw[hp,hp2];simp⟩
theorem chain_shr {one:Rd Ex} (h1:Shr one) (ops:Ops):Shr (chain one ops):=fun l x r h=>by
 obtain⟨y,r1,e1,e2⟩:=bind_eq_ok h
 obtain⟨p,rfl,hp⟩:=h1 _ _ _ e1
 obtain⟨p2,rfl⟩:=chainF_keep h1.keep ops _ _ _ _ _ e2
 exact⟨p++p2,by simp,by simp[hp]⟩
theorem chainF_more {one:Rd Ex} (h1:Keep one) (ops:Ops):∀ (k m:Nat) (e:Ex) (l:List Tok),l.length≤k→l.length≤m→chainF one ops k e l=chainF one ops m e l
 | 0,0,_,_,_,_=>rfl
 | 0,m+1,e,l,h,_=>by
  obtain rfl:l=[]:=List.length_eq_zero_iff.1 (by omega)
  unfold chainF
  rw[opOf_nil]
 | k+1,0,e,l,_,h=>by
  obtain rfl:l=[]:=List.length_eq_zero_iff.1 (by omega)
  unfold chainF
  rw[opOf_nil]
 | k+1,m+1,e,l,hk,hm=>by
  unfold chainF
  cases ho:opOf ops l with
  | none=>rfl
  | some op =>
   obtain⟨t,l',rfl⟩:=opOf_cons ho
   simp only[List.tail_cons]
   cases h:one l' with
   | err=>rfl
   | ok y r =>
    have:=h1.len h
    simp only[List.length_cons] at hk hm
    exact chainF_more h1 ops k m _ _ (by omega) (by omega)
theorem chainW_none {one:Rd Ex} {ops:Ops} {e:Ex} {l:List Tok} (h:opOf ops l=none):chainW one ops e l=.ok e l:=by
 unfold chainW
 cases l with
 | nil=>rfl
 | cons t r=>rw[List.length_cons,chainF,h]
theorem chainW_err {one:Rd Ex} {ops:Ops} {e:Ex} {l:List Tok} {op:Int} {er a:Nat} (h:opOf ops l=some op) (h2:one l.tail=.err er a):chainW one ops e l=.err er a:=by
 unfold chainW
 obtain⟨t,r,rfl⟩:=opOf_cons h
 rw[List.length_cons,chainF,h]
 simp only
 rw[h2]
 rfl
theorem chainW_some {one:Rd Ex} (h1:Keep one) {ops:Ops} {e y:Ex} {l r:List Tok} {op:Int} (h:opOf ops l=some op) (h2:one l.tail=.ok y r):chainW one ops e l=chainW one ops (exTwo op e y) r:=by
 unfold chainW
 obtain⟨t,l',rfl⟩:=opOf_cons h
 rw[List.length_cons,chainF,h]
 simp only
 rw[h2]
 have:=h1.len h2
 exact chainF_more h1 ops _ _ _ _ this (Nat.le_refl _)
theorem need_shr {α:Type} {z:Nat} {s:Bs} {f:Rd α} (h:Keep f):Shr (fun l=>need z s l f):=fun l x r e=>by
 obtain⟨t,l',rfl,-,h2⟩:=need_ok e
 obtain⟨p,hp⟩:=h _ _ _ h2
 exact⟨t :: p,by rw[hp];rfl,by simp⟩
theorem ok_keep {α:Type} (x:α):Keep (fun l=>PR.ok x l):=fun l y r h=>by cases h;exact⟨[],rfl⟩
theorem bind_shr {α β:Type} {f:Rd α} {g:α→Rd β} (h1:Shr f) (h2:∀ x,Keep (g x)):Shr (fun l=>(f l).bind g):=fun l x r e=>by
 obtain⟨y,r1,e1,e2⟩:=bind_eq_ok e
 obtain⟨p,rfl,hp⟩:=h1 _ _ _ e1
 obtain⟨p2,rfl⟩:=h2 y _ _ _ e2
 exact⟨p++p2,by simp,by simp[hp]⟩
theorem bind_keep {α β:Type} {f:Rd α} {g:α→Rd β} (h1:Keep f) (h2:∀ x,Keep (g x)):Keep (fun l=>(f l).bind g):=fun l x r e=>by
 obtain⟨y,r1,e1,e2⟩:=bind_eq_ok e
 obtain⟨p,rfl⟩:=h1 _ _ _ e1
 obtain⟨p2,rfl⟩:=h2 y _ _ _ e2
 exact⟨p++p2,by simp⟩
theorem map_shr {α β:Type} {f:Rd α} {g:α→β} (h1:Shr f):Shr (fun l=>(f l).map g):=fun l x r e=>by
 obtain⟨y,e1,-⟩:=map_eq_ok e
 exact h1 _ _ _ e1
theorem map_keep {α β:Type} {f:Rd α} {g:α→β} (h1:Keep f):Keep (fun l=>(f l).map g):=fun l x r e=>by
 obtain⟨y,e1,-⟩:=map_eq_ok e
 exact h1 _ _ _ e1
theorem tail_keep {α:Type} {f:Rd α} (h:Keep f):Keep (fun l=>f l.tail):=fun l x r e=>by
 obtain⟨p,hp⟩:=h _ _ _ e
 cases l with
 | nil=>exact⟨p,hp⟩
 | cons t l'=>exact⟨t :: p,by simp only[List.tail_cons] at hp;rw[hp];rfl⟩
theorem tail_shr {α:Type} {f:Rd α} (h:Shr f):Shr (fun l=>f l.tail):=fun l x r e=>by
 obtain⟨p,hp,hn⟩:=h _ _ _ e
 cases l with
 | nil=>exact⟨p,hp,hn⟩
 | cons t l'=>exact⟨t :: p,by simp only[List.tail_cons] at hp;rw[hp];rfl,by simp⟩
theorem ite_shr {α:Type} {c:List Tok→Bool} {f g:Rd α} (h1:Shr f) (h2:Shr g):Shr (fun l=>if c l=true then f l else g l):=fun l x r e=>by
 (try dsimp only at e)
 split at e
 ·exact h1 _ _ _ e
 ·exact h2 _ _ _ e
theorem ite_keep {α:Type} {c:List Tok→Bool} {f g:Rd α} (h1:Keep f) (h2:Keep g):Keep (fun l=>if c l=true then f l else g l):=fun l x r e=>by
 (try dsimp only at e)
 split at e
 ·exact h1 _ _ _ e
 ·exact h2 _ _ _ e
theorem err_shr {α:Type} (f:List Tok→Nat × Nat):Shr (α:=α) (fun l=>PR.err (f l).1 (f l).2):=fun l x r e=>by cases e
theorem bSum_shr {sg:Rd Ex} (h:Shr sg):Shr (bSum sg):=chain_shr (chain_shr h _) _
theorem bNull_keep (z:Nat) (x:Ex):Keep (bNull z x):=ite_keep (tail_keep (need_shr (ok_keep _)).keep) (need_shr (ok_keep _)).keep
theorem bTest_shr (z:Nat) {sg:Rd Ex} (h:Shr sg):Shr (bTest z sg):=bind_shr (bSum_shr h) fun x=>ite_keep (tail_keep (bNull_keep z x)) fun l y r e=>by
 (try dsimp only at e)
 cases ho:opOf opsCmp l with
 | none=>rw[ho] at e;cases e;exact⟨[],rfl⟩
 | some op =>
  rw[ho] at e
  exact tail_keep (map_keep (bSum_shr h).keep) _ _ _ e
theorem bCol_keep (z:Nat) (s:Bs):Keep (bCol z s):=fun l x r e=>by
 unfold bCol at e
 split at e
 ·rename_i hs
  obtain⟨t,l',rfl,-,-⟩:=sees_cons hs
  cases l' with
  | nil=>cases e
  | cons t' r' =>
   simp only[List.tail_cons] at e
   split at e
   ·cases e;exact⟨[t,t'],rfl⟩
   ·cases e
 ·cases e;exact⟨[],rfl⟩
theorem bAtom_shr (z:Nat) {orr:Rd Ex} (h:Shr orr):Shr (bAtom z orr):=fun l x r e=>by
 cases l with
 | nil=>cases e
 | cons t l' =>
  rw[bAtom] at e
  split at e
  ·cases e;exact⟨[t],rfl,by simp⟩
  split at e
  ·cases e;exact⟨[t],rfl,by simp⟩
  split at e
  ·cases e;exact⟨[t],rfl,by simp⟩
  split at e
  ·obtain⟨p,hp⟩:=bCol_keep z t.s _ _ _ e
   exact⟨t :: p,by rw[hp];rfl,by simp⟩
  split at e
  ·cases e;exact⟨[t],rfl,by simp⟩
  split at e
  ·cases e;exact⟨[t],rfl,by simp⟩
  split at e
  ·cases e;exact⟨[t],rfl,by simp⟩
  split at e
  ·obtain⟨p,hp⟩:=(bind_shr h fun y=>(need_shr (z:=z) (s:=[41]) (ok_keep y)).keep).keep l' x r e
   exact⟨t :: p,by rw[hp];rfl,by simp⟩
  ·cases e
structure LevShr (L:Lev):Prop where
 o:Shr L.o
 n:Shr L.n
 s:Shr L.s
theorem lev_shr (z:Nat):∀ n,LevShr (lev z n)
 | 0=>⟨err_shr fun l=>(5,hAt z l),err_shr fun l=>(5,hAt z l),err_shr fun l=>(5,hAt z l)⟩
 | n+1=>by
  have h:=lev_shr z n
  exact⟨chain_shr (chain_shr h.n _) _,ite_shr (map_shr (tail_shr h.n)) (bTest_shr z h.s),ite_shr (map_shr (tail_shr h.s)) (bAtom_shr z h.o)⟩
theorem listF_keep {α:Type} {z:Nat} {one:Rd α} (h1:Keep one):∀ (k:Nat) (acc:List α),Keep (listF z one k acc)
 | 0,e,l,x,r,h=>by cases h;exact⟨[],rfl⟩
 | k+1,acc,l,x,r,h=>by
  unfold listF at h
  split at h
  ·rename_i hs
   obtain⟨t,l',rfl,-,-⟩:=sees_cons hs
   split at h
   ·cases h
   ·obtain⟨y,r1,e1,e2⟩:=bind_eq_ok h
    obtain⟨p,hp⟩:=h1 _ _ _ e1
    obtain⟨p2,hp2⟩:=listF_keep h1 k _ _ _ _ e2
    exact⟨t :: p++p2,by simp only[List.tail_cons] at hp;rw[hp,hp2];simp⟩
  ·cases h;exact⟨[],rfl⟩
theorem listP_shr {α:Type} {z:Nat} {one:Rd α} (h1:Shr one):Shr (listP z one):=fun l x r h=>by
 obtain⟨y,r1,e1,e2⟩:=bind_eq_ok h
 obtain⟨p,rfl,hp⟩:=h1 _ _ _ e1
 obtain⟨p2,rfl⟩:=listF_keep h1.keep _ _ _ _ _ e2
 exact⟨p++p2,by simp,by simp[hp]⟩
theorem listF_more {α:Type} {z:Nat} {one:Rd α} (h1:Keep one):∀ (k m:Nat) (acc:List α) (l:List Tok),l.length≤k→l.length≤m→listF z one k acc l=listF z one m acc l
 | 0,0,_,_,_,_=>rfl
 | 0,m+1,e,l,h,_=>by
  obtain rfl:l=[]:=List.length_eq_zero_iff.1 (by omega)
  unfold listF
  rfl
 | k+1,0,e,l,_,h=>by
  obtain rfl:l=[]:=List.length_eq_zero_iff.1 (by omega)
  unfold listF
  rfl
 | k+1,m+1,acc,l,hk,hm=>by
  unfold listF
  split
  ·rename_i hs
   obtain⟨t,l',rfl,-,-⟩:=sees_cons hs
   split
   ·rfl
   ·simp only[List.tail_cons]
    cases h:one l' with
    | err=>rfl
    | ok y r =>
     have:=h1.len h
     simp only[List.length_cons] at hk hm
     exact listF_more h1 k m _ _ (by omega) (by omega)
  ·rfl
theorem listW_none {α:Type} {z:Nat} {one:Rd α} {acc:List α} {l:List Tok} (h:hSees [44] l=false):listW z one acc l=.ok acc l:=by
 unfold listW
 cases l with
 | nil=>rfl
 | cons t r=>rw[List.length_cons,listF,h];rfl
theorem listW_full {α:Type} {z:Nat} {one:Rd α} {acc:List α} {l:List Tok} (h:hSees [44] l=true) (h8:acc.length=8):listW z one acc l=.err 5 (hAt z l.tail):=by
 unfold listW
 obtain⟨t,r,rfl,-,-⟩:=sees_cons h
 rw[List.length_cons,listF,h,if_pos rfl,if_pos h8]
theorem listW_err {α:Type} {z:Nat} {one:Rd α} {acc:List α} {l:List Tok} {er a:Nat} (h:hSees [44] l=true) (h8:acc.length≠8) (h2:one l.tail=.err er a):listW z one acc l=.err er a:=by
 unfold listW
 obtain⟨t,r,rfl,-,-⟩:=sees_cons h
 rw[List.length_cons,listF,h,if_pos rfl,if_neg h8,h2]
 rfl
theorem listW_some {α:Type} {z:Nat} {one:Rd α} (h1:Keep one) {acc:List α} {l r:List Tok} {x:α} (h:hSees [44] l=true) (h8:acc.length≠8) (h2:one l.tail=.ok x r):listW z one acc l=listW z one (acc++[x]) r:=by
 unfold listW
 obtain⟨t,l',rfl,-,-⟩:=sees_cons h
 rw[List.length_cons,listF,h,if_pos rfl,if_neg h8,h2]
 have:=h1.len h2
 exact listF_more h1 _ _ _ _ this (Nat.le_refl _)
theorem bItem_shr (z:Nat) {orr:Rd Ex} (h:Shr orr):Shr (bItem z orr):=fun l x r e=>by
 unfold bItem at e
 cases ho:opOf opsAgg l with
 | none=>rw[ho] at e;exact map_shr h _ _ _ e
 | some a =>
  rw[ho] at e
  obtain⟨t,l',rfl⟩:=opOf_cons ho
  obtain⟨t2,l2,e2,-,h2⟩:=need_ok e
  simp only[List.tail_cons] at e2
  subst e2
  (try dsimp only at h2)
  split at h2
  ·rename_i hs
   obtain⟨t3,l3,rfl,-,-⟩:=sees_cons hs.2
   obtain⟨t4,l4,e4,-,h4⟩:=need_ok h2
   simp only[List.tail_cons] at e4
   subst e4
   cases h4
   exact⟨[t,t2,t3,t4],rfl,by simp⟩
  ·obtain⟨p,hp⟩:=(bind_shr h fun y=>(need_shr (z:=z) (s:=[41]) (ok_keep (It.mk a y))).keep).keep l2 x r h2
   exact⟨t :: t2 :: p,by rw[hp];rfl,by simp⟩
theorem bKey_shr (z:Nat):Shr (bKey z):=fun l x r e=>by
 cases l with
 | nil=>cases e
 | cons t l' =>
  rw[bKey] at e
  split at e
  ·split at e
   ·rename_i hs
    obtain⟨t2,l2,rfl,-,-⟩:=sees_cons hs
    cases e
    exact⟨[t,t2],rfl,by simp⟩
   ·cases e;exact⟨[t],rfl,by simp⟩
  ·cases e
theorem bTable_shr (z:Nat) (kind:Int) (ahead most:Nat):Shr (bTable z kind ahead most):=fun l x r e=>by
 cases l with
 | nil=>cases e
 | cons t l' =>
  rw[bTable] at e
  split at e
  ·split at e
   ·cases e
   ·cases l' with
    | nil=>rw[bAlias] at e;cases e;exact⟨[t],rfl,by simp⟩
    | cons u r2 =>
     rw[bAlias] at e
     split at e
     ·cases e;exact⟨[t,u],rfl,by simp⟩
     ·cases e;exact⟨[t],rfl,by simp⟩
  ·cases e
theorem bJoin_shr (z:Nat) {orr:Rd Ex} (h:Shr orr) (kind:Int) (ahead most:Nat):Shr (bJoin z orr kind ahead most) :=
 need_shr (bind_shr (bTable_shr z kind ahead most) fun _=>(need_shr (map_keep h.keep)).keep).keep
theorem bInner_shr (z:Nat) {orr:Rd Ex} (h:Shr orr) (ahead:Nat):Shr (bInner z orr ahead):=ite_shr (tail_shr (bTable_shr z 0 ahead 4)) (bJoin_shr z h 0 ahead 4)
theorem bOuter_shr (z:Nat) {orr:Rd Ex} (h:Shr orr) (ahead:Nat):Shr (bOuter z orr ahead):=ite_shr (tail_shr (bJoin_shr z h 1 ahead 2)) (need_shr (bJoin_shr z h 2 ahead 2).keep)
theorem moreF_keep {a b:Bs} {one:Nat→Rd Fr} (h1:∀ n,Keep (one n)):∀ (k:Nat) (acc:List Fr),Keep (moreF a b one k acc)
 | 0,e,l,x,r,h=>by cases h;exact⟨[],rfl⟩
 | k+1,acc,l,x,r,h=>by
  unfold moreF at h
  split at h
  ·obtain⟨y,r1,e1,e2⟩:=bind_eq_ok h
   obtain⟨p,hp⟩:=h1 _ _ _ _ e1
   obtain⟨p2,hp2⟩:=moreF_keep h1 k _ _ _ _ e2
   exact⟨p++p2,by rw[hp,hp2];simp⟩
  ·cases h;exact⟨[],rfl⟩
theorem moreF_more {a b:Bs} {one:Nat→Rd Fr} (h1:∀ n,Shr (one n)):∀ (k m:Nat) (acc:List Fr) (l:List Tok),l.length≤k→l.length≤m→moreF a b one k acc l=moreF a b one m acc l
 | 0,0,_,_,_,_=>rfl
 | 0,m+1,e,l,h,_=>by
  obtain rfl:l=[]:=List.length_eq_zero_iff.1 (by omega)
  unfold moreF
  rfl
 | k+1,0,e,l,_,h=>by
  obtain rfl:l=[]:=List.length_eq_zero_iff.1 (by omega)
  unfold moreF
  rfl
 | k+1,m+1,acc,l,hk,hm=>by
  unfold moreF
  split
  ·cases h:one acc.length l with
   | err=>rfl
   | ok y r =>
    have:=(h1 _).len h
    exact moreF_more h1 k m _ _ (by omega) (by omega)
  ·rfl
theorem moreW_none {a b:Bs} {one:Nat→Rd Fr} {acc:List Fr} {l:List Tok} (h:(hSees a l || hSees b l)=false):moreW a b one acc l=.ok acc l:=by
 unfold moreW
 cases l with
 | nil=>rfl
 | cons t r=>rw[List.length_cons,moreF,h];rfl
theorem or_cons {a b:Bs} {l:List Tok} (h:(hSees a l || hSees b l)=true):∃ t r,l=t :: r:=by
 rw[Bool.or_eq_true] at h
 rcases h with h | h
 all_goals obtain⟨t,r,e,_⟩:=sees_cons h;exact⟨t,r,e⟩
theorem moreW_err {a b:Bs} {one:Nat→Rd Fr} {acc:List Fr} {l:List Tok} {er p:Nat} (h:(hSees a l || hSees b l)=true) (h2:one acc.length l=.err er p):moreW a b one acc l=.err er p:=by
 unfold moreW
 obtain⟨t,r,rfl⟩:=or_cons h
 rw[List.length_cons,moreF,h,if_pos rfl,h2]
 rfl
theorem moreW_some {a b:Bs} {one:Nat→Rd Fr} (h1:∀ n,Shr (one n)) {acc:List Fr} {l r:List Tok} {x:Fr} (h:(hSees a l || hSees b l)=true) (h2:one acc.length l=.ok x r):moreW a b one acc l=moreW a b one (acc++[x]) r:=by
 unfold moreW
 obtain⟨t,l',rfl⟩:=or_cons h
 rw[List.length_cons,moreF,h,if_pos rfl,h2]
 have:=(h1 _).len h2
 simp only[List.length_cons] at this
 exact moreF_more h1 _ _ _ _ (by omega) (Nat.le_refl _)
theorem bTables_shr (z:Nat) {orr:Rd Ex} (h:Shr orr):Shr (bTables z orr) :=
 bind_shr (bTable_shr z 0 0 4) fun _=>bind_keep (moreF_keepW fun n=>(bInner_shr z h n).keep) fun _=>map_keep (moreF_keepW fun n=>(bOuter_shr z h n).keep)
where
 moreF_keepW {a b:Bs} {one:Nat→Rd Fr} {acc:List Fr} (h1:∀ n,Keep (one n)):Keep (moreW a b one acc):=fun _ _ _ e=>moreF_keep h1 _ _ _ _ _ e
theorem bWhere_keep {orr:Rd Ex} (h:Shr orr):Keep (bWhere orr):=ite_keep (tail_keep (map_keep h.keep)) (ok_keep _)
theorem bGroup_keep (z:Nat) {orr:Rd Ex} (h:Shr orr):Keep (bGroup z orr):=ite_keep (tail_keep (need_shr (listP_shr h).keep).keep) (ok_keep _)
theorem bDist_app (l:List Tok):∃ p,l=p++(bDist l).2:=by
 unfold bDist
 split
 ·rename_i hs
  obtain⟨t,r,rfl,-,-⟩:=sees_cons hs
  exact⟨[t],rfl⟩
 ·exact⟨[],rfl⟩
theorem bSel2_keep (z:Nat) {orr:Rd Ex} (h:Shr orr):Keep (bSel2 z orr):=fun l x r e=>by
 obtain⟨p,hp⟩:=bDist_app l
 unfold bSel2 at e
 obtain⟨p2,hp2⟩:=(bind_keep (listP_shr (bItem_shr z h)).keep fun i=>(need_shr (z:=z) (s:=kwFrom) (bind_keep (bTables_shr z h).keep fun f=>bind_keep (bWhere_keep h) fun w=>map_keep (g:=fun g=>Sel.mk (bDist l).1 i f w g) (bGroup_keep z h))).keep) (bDist l).2 x r e
 exact⟨p++p2,by rw[List.append_assoc,← hp2,← hp]⟩
theorem bSel_shr (z:Nat) {orr:Rd Ex} (h:Shr orr) (ahead:Nat):Shr (bSel z orr ahead):=fun l x r e=>by
 unfold bSel at e
 by_cases ha:ahead=4
 ·obtain⟨t,l',rfl,-,h2⟩:=need_ok e
  rw[if_pos ha] at h2
  cases h2
 ·simp only[if_neg ha] at e
  exact need_shr (bSel2_keep z h) _ _ _ e
theorem selsF_more {z:Nat} {orr:Rd Ex} (h1:Shr orr):∀ (k m:Nat) (acc:List Sel) (l:List Tok),l.length≤k→l.length≤m→selsF z orr k acc l=selsF z orr m acc l
 | 0,0,_,_,_,_=>rfl
 | 0,m+1,e,l,h,_=>by
  obtain rfl:l=[]:=List.length_eq_zero_iff.1 (by omega)
  unfold selsF
  rfl
 | k+1,0,e,l,_,h=>by
  obtain rfl:l=[]:=List.length_eq_zero_iff.1 (by omega)
  unfold selsF
  rfl
 | k+1,m+1,acc,l,hk,hm=>by
  unfold selsF
  split
  ·rename_i hs
   obtain⟨t,l',rfl,-,-⟩:=sees_cons hs
   unfold need
   split
   ·rename_i hs2
    simp only[List.tail_cons] at hs2 ⊢
    obtain⟨t2,l2,rfl,-,-⟩:=sees_cons hs2
    simp only[List.tail_cons]
    cases h:bSel z orr acc.length l2 with
    | err=>rfl
    | ok y r =>
     have:=(bSel_shr z h1 _).len h
     simp only[List.length_cons] at hk hm
     exact selsF_more h1 k m _ _ (by omega) (by omega)
   ·rfl
  ·rfl
theorem selsW_none {z:Nat} {orr:Rd Ex} {acc:List Sel} {l:List Tok} (h:hSees kwUnion l=false):selsW z orr acc l=.ok acc l:=by
 unfold selsW
 cases l with
 | nil=>rfl
 | cons t r=>rw[List.length_cons,selsF,h];rfl
theorem selsW_all {z:Nat} {orr:Rd Ex} {acc:List Sel} {l:List Tok} (h:hSees kwUnion l=true) (h2:hSees kwAll l.tail=false):selsW z orr acc l=.err 7 (hAt z l.tail):=by
 unfold selsW
 obtain⟨t,r,rfl,-,-⟩:=sees_cons h
 rw[List.length_cons,selsF,h,if_pos rfl,need,h2]
 rfl
theorem selsW_err {z:Nat} {orr:Rd Ex} {acc:List Sel} {l:List Tok} {er a:Nat} (h:hSees kwUnion l=true) (h2:hSees kwAll l.tail=true) (h3:bSel z orr acc.length l.tail.tail=.err er a):selsW z orr acc l=.err er a:=by
 unfold selsW
 obtain⟨t,r,rfl,-,-⟩:=sees_cons h
 rw[List.length_cons,selsF,h,if_pos rfl,need,h2,if_pos rfl,h3]
 rfl
theorem selsW_some {z:Nat} {orr:Rd Ex} (h1:Shr orr) {acc:List Sel} {l r:List Tok} {x:Sel} (h:hSees kwUnion l=true) (h2:hSees kwAll l.tail=true) (h3:bSel z orr acc.length l.tail.tail=.ok x r):selsW z orr acc l=selsW z orr (acc++[x]) r:=by
 unfold selsW
 obtain⟨t,l',rfl,-,-⟩:=sees_cons h
 rw[List.length_cons,selsF,h,if_pos rfl,need,h2,if_pos rfl,h3]
 have:=(bSel_shr z h1 _).len h3
 simp only[List.length_tail,List.length_cons] at this
 exact selsF_more h1 _ _ _ _ (by omega) (Nat.le_refl _)
structure Tok.Wf (t:Tok):Prop where
 kd:1≤t.kd∧t.kd≤6
 word:t.kd=1→t.s∈lexWords
 name:t.kd=2→t.s≠[]∧t.s.length≤20
 num:t.n≤9223372036854775807
 text:t.s.length≤40
 sign:t.kd=6→t.s=[60,61]∨t.s=[62,61]∨t.s=[60,62]∨∃ b∈singles,t.s=[b]
theorem signOf_shape {l s:Bs} (h:signOf l=some s):s=[60,61]∨s=[62,61]∨s=[60,62]∨∃ b∈singles,s=[b]:=by
 match l,h with
 | [],h=>cases h
 | [b],h =>
  rw[signOf_one] at h
  split at h
  ·rename_i hb;cases h;exact .inr (.inr (.inr ⟨b,hb,rfl⟩))
  ·cases h
 | b :: c :: r,h =>
  rw[signOf_two] at h
  split at h
  ·cases h;exact .inl rfl
  ·split at h
   ·cases h;exact .inr (.inl rfl)
   ·split at h
    ·cases h;exact .inr (.inr (.inl rfl))
    ·split at h
     ·rename_i hb;cases h;exact .inr (.inr (.inr ⟨b,hb,rfl⟩))
     ·cases h
theorem one_wf {l:Bs} {kd n:Nat} {s:Bs} {used:Nat} (a:Nat) (h:one l=.tok kd n s used):Tok.Wf ⟨kd,n,a,s⟩:=by
 cases l with
 | nil=>cases h
 | cons b r =>
  rw[one_cons] at h
  split at h
  ·rename_i hb
   unfold oneWord at h
   split at h
   ·cases h
   ·rename_i h20
    have h1:=takeWhile_pos (p:=isWordB) (r:=r) (letter_word hb)
    obtain⟨rfl,rfl,rfl,rfl⟩:(if ((b :: r).takeWhile isWordB).map lower∈lexWords then 1 else 2)=kd∧0=n∧((b :: r).takeWhile isWordB).map lower=s∧((b :: r).takeWhile isWordB).length=used:=by injection h with h1 h2 h3 h4;exact⟨h1,h2,h3,h4⟩
    refine⟨(by dsimp only;split <;> omega),fun e=>?_,fun e=>?_,(by dsimp only;omega),?_,fun e=>?_⟩
    ·dsimp only at e ⊢
     split at e
     ·assumption
     ·cases e
    ·dsimp only at e ⊢
     have:(((b :: r).takeWhile isWordB).map lower).length=((b :: r).takeWhile isWordB).length:=List.length_map _
     refine⟨fun e2=>?_,by omega⟩
     rw[e2,List.length_nil] at this
     omega
    ·dsimp only
     rw[List.length_map]
     omega
    ·dsimp only at e
     split at e <;> cases e
  ·split at h
   ·unfold oneNum at h
    split at h
    ·cases h
    ·cases h
     exact⟨(by dsimp only;omega),fun e=>(by cases e),fun e=>(by cases e),(by dsimp only;omega),(by simp),fun e=>(by cases e)⟩
   ·split at h
    ·unfold oneText at h
     cases e:textOf r with
     | none=>rw[e] at h;cases h
     | some x =>
      rw[e] at h
      simp only at h
      split at h
      ·cases h
      ·cases h
       exact⟨(by dsimp only;omega),fun e=>(by cases e),fun e=>(by cases e),(by dsimp only;omega),(by dsimp only;omega),fun e=>(by cases e)⟩
    ·split at h
     ·unfold onePar at h
      split at h
      ·cases h
      ·split at h
       ·cases h
       ·cases h
        exact⟨(by dsimp only;omega),fun e=>(by cases e),fun e=>(by cases e),(by dsimp only;omega),(by simp),fun e=>(by cases e)⟩
     ·unfold oneSign at h
      cases e:signOf (b :: r) with
      | none=>rw[e] at h;cases h
      | some x =>
       rw[e] at h
       cases h
       have hs:=signOf_shape e
       refine⟨(by dsimp only;omega),fun e=>(by cases e),fun e=>(by cases e),(by dsimp only;omega),?_,fun _=>hs⟩
       rcases hs with rfl | rfl | rfl |⟨b,-,rfl⟩ <;> simp
theorem lexL_wf (l:Bs):∀ pos cnt L,lexL l pos cnt=.ok L→∀ t∈L,t.Wf:=by
 refine lex_ind (P:=fun l=>∀ pos cnt L,lexL l pos cnt=.ok L→∀ t∈L,t.Wf) ?_ ?_ ?_ ?_ l
 ·intro pos cnt L h t ht
  cases h
  cases ht
 ·intro b r hb ih pos cnt L h
  rw[lexL_blank hb] at h
  exact ih _ _ _ h
 ·intro b r e rel hb h1 pos cnt L h
  rw[lexL_err hb h1] at h
  cases h
 ·intro b r kd n s used hb h1 ih pos cnt L h
  rw[lexL_tok hb h1] at h
  split at h
  ·cases h
  ·obtain⟨B,hB,rfl⟩:=push_ok h
   intro t ht
   rcases List.mem_cons.1 ht with rfl | ht
   ·exact one_wf _ h1
   ·exact ih _ _ _ hB t ht
theorem lexS_ok {s:Bs} {L:List Tok} (h:lexS s=.ok L):s.length≤2000∧lexL s 0 0=.ok L:=by
 unfold lexS at h
 split at h
 ·cases h
 ·exact⟨by omega,h⟩
structure Toks (z:Nat) (L:List Tok):Prop where
 wf:∀ t∈L,t.Wf
 at_:∀ t∈L,t.at_<z
 most:L.length≤400
theorem lexS_toks {s:Bs} {L:List Tok} (h:lexS s=.ok L):Toks s.length L∧s.length≤2000:=by
 obtain⟨h1,h2⟩:=lexS_ok h
 refine⟨⟨lexL_wf _ _ _ _ h2,fun t ht=>?_,by have:=lexL_most _ _ _ _ (by omega) h2;omega⟩,h1⟩
 obtain⟨k,b,e,hk,-⟩:=(lexL_places _ _ _ _ h2).1 t ht
 have:=(List.getElem?_eq_some_iff.1 hk).1
 omega
theorem Toks.app {z:Nat} {p r:List Tok} (h:Toks z (p++r)):Toks z r:=⟨fun t ht=>h.wf t (List.mem_append_right _ ht),fun t ht=>h.at_ t (List.mem_append_right _ ht),by have:=h.most;rw[List.length_append] at this;omega⟩
theorem Toks.tail {z:Nat} {l:List Tok} (h:Toks z l):Toks z l.tail:=by
 cases l with
 | nil=>exact h
 | cons t r=>exact Toks.app (p:=[t]) h
theorem Toks.of {α:Type} {z:Nat} {f:Rd α} (hf:Keep f) {l r:List Tok} {x:α} (h:Toks z l) (e:f l=.ok x r):Toks z r:=by
 obtain⟨p,rfl⟩:=hf _ _ _ e
 exact h.app
theorem sees_eq (s:Bs) (t:Tok) (r:List Tok):hSees s (t :: r)=((t.kd == 1 || t.kd == 6) && t.s == s):=rfl
theorem sees_word {s:Bs} (hs:s∈lexWords) {t:Tok} {r:List Tok} (ht:t.Wf):hSees s (t :: r)=(t.kd == 1 && t.s == s):=by
 rw[sees_eq]
 cases h:t.s == s with
 | false=>rw[Bool.and_false,Bool.and_false]
 | true =>
  rw[beq_iff_eq] at h
  by_cases h6:t.kd=6
  ·exfalso
   have:=ht.sign h6
   rw[h] at this
   rcases this with rfl | rfl | rfl |⟨b,hb,rfl⟩
   ·revert hs;decide
   ·revert hs;decide
   ·revert hs;decide
   ·revert hs
    simp[lexWords]
  ·rw[show (t.kd == 6)=false from beq_eq_false_iff_ne.2 h6,Bool.or_false]
theorem sees_sign {s:Bs} (hs:s ∉ lexWords) {t:Tok} {r:List Tok} (ht:t.Wf):hSees s (t :: r)=(t.kd == 6 && t.s == s):=by
 rw[sees_eq]
 cases h:t.s == s with
 | false=>rw[Bool.and_false,Bool.and_false]
 | true =>
  rw[beq_iff_eq] at h
  by_cases h1:t.kd=1
  ·exfalso
   have:=ht.word h1
   rw[h] at this
   exact hs this
  ·rw[show (t.kd == 1)=false from beq_eq_false_iff_ne.2 h1,Bool.false_or]
theorem listF_most {α:Type} {z:Nat} {one:Rd α}:∀ (k:Nat) (acc:List α) (l:List Tok) (x:List α) (r:List Tok),1≤acc.length→acc.length≤8→listF z one k acc l=.ok x r→1≤x.length∧x.length≤8
 | 0,acc,l,x,r,h1,h8,h=>by cases h;exact⟨h1,h8⟩
 | k+1,acc,l,x,r,h1,h8,h=>by
  unfold listF at h
  split at h
  ·split at h
   ·cases h
   ·obtain⟨y,r1,e1,e2⟩:=bind_eq_ok h
    exact listF_most k _ _ _ _ (by simp) (by simp;omega) e2
  ·cases h;exact⟨h1,h8⟩
theorem listP_most {α:Type} {z:Nat} {one:Rd α} {l:List Tok} {x:List α} {r:List Tok} (h:listP z one l=.ok x r):1≤x.length∧x.length≤8:=by
 obtain⟨y,r1,e1,e2⟩:=bind_eq_ok h
 exact listF_most _ _ _ _ _ (by simp) (by simp) e2
theorem moreW_keep {a b:Bs} {one:Nat→Rd Fr} {acc:List Fr} (h1:∀ n,Keep (one n)):Keep (moreW a b one acc):=fun _ _ _ e=>moreF_keep h1 _ _ _ _ _ e
theorem Toks.dist {z:Nat} {l:List Tok} (h:Toks z l):Toks z (bDist l).2:=by
 obtain⟨p,hp⟩:=bDist_app l
 rw[hp] at h
 exact h.app
theorem bTable_ok {z:Nat} {kind:Int} {ahead most:Nat} {l r:List Tok} {f:Fr} (hl:Toks z l) (h:bTable z kind ahead most l=.ok f r):f.table≠[]∧f.alias≠[]∧f.kind=kind∧ahead≠most:=by
 cases l with
 | nil=>cases h
 | cons t l' =>
  rw[bTable] at h
  split at h
  ·rename_i h2
   have n1:=((hl.wf t (List.mem_cons_self ..)).name h2).1
   split at h
   ·cases h
   ·rename_i h3
    cases l' with
    | nil=>rw[bAlias] at h;cases h;exact⟨n1,n1,rfl,h3⟩
    | cons u r2 =>
     rw[bAlias] at h
     split at h
     ·rename_i h4
      cases h
      exact⟨n1,((hl.wf u (by simp)).name h4).1,rfl,h3⟩
     ·cases h;exact⟨n1,n1,rfl,h3⟩
  ·cases h
theorem bJoin_ok {z:Nat} {orr:Rd Ex} {kind:Int} {ahead most:Nat} {l r:List Tok} {f:Fr} (hl:Toks z l) (h:bJoin z orr kind ahead most l=.ok f r):f.table≠[]∧f.alias≠[]∧f.kind=kind∧ahead≠most∧f.on.length=1:=by
 obtain⟨t,l',rfl,-,h2⟩:=need_ok h
 obtain⟨y,r1,e1,e2⟩:=bind_eq_ok h2
 obtain⟨t3,l3,rfl,-,e3⟩:=need_ok e2
 obtain⟨x,e4,rfl⟩:=map_eq_ok e3
 obtain⟨a1,a2,a3,a4⟩:=bTable_ok (Toks.tail hl) e1
 exact⟨a1,a2,a3,a4,rfl⟩
theorem bInner_ok {z:Nat} {orr:Rd Ex} {ahead:Nat} {l r:List Tok} {f:Fr} (hl:Toks z l) (h:bInner z orr ahead l=.ok f r):f.table≠[]∧f.alias≠[]∧f.kind=0∧ahead≠4:=by
 unfold bInner at h
 split at h
 ·exact bTable_ok hl.tail h
 ·obtain⟨a1,a2,a3,a4,-⟩:=bJoin_ok hl h
  exact⟨a1,a2,a3,a4⟩
theorem bOuter_ok {z:Nat} {orr:Rd Ex} {ahead:Nat} {l r:List Tok} {f:Fr} (hl:Toks z l) (h:bOuter z orr ahead l=.ok f r):f.table≠[]∧f.alias≠[]∧(f.kind=1∨f.kind=2)∧ahead≠2∧f.on.length=1:=by
 unfold bOuter at h
 split at h
 ·obtain⟨a1,a2,a3,a4,a5⟩:=bJoin_ok hl.tail h
  exact⟨a1,a2,.inl a3,a4,a5⟩
 ·obtain⟨t,l',rfl,-,h2⟩:=need_ok h
  obtain⟨a1,a2,a3,a4,a5⟩:=bJoin_ok (Toks.tail hl) h2
  exact⟨a1,a2,.inr a3,a4,a5⟩
theorem moreF_ok {z:Nat} {a b:Bs} {one:Nat→Rd Fr} {P:Fr→Prop} {most:Nat} (hk:∀ n,Keep (one n)) (h1:∀ n l f r,Toks z l→one n l=.ok f r→P f∧n≠most):∀ (k:Nat) (acc:List Fr) (l:List Tok) (x:List Fr) (r:List Tok),Toks z l→(∀ f∈acc,P f)→acc.length≤most→moreF a b one k acc l=.ok x r→(∀ f∈x,P f)∧x.length≤most∧acc.length≤x.length∧∃ y,x=acc++y
 | 0,acc,l,x,r,hl,hP,hm,h=>by cases h;exact⟨hP,hm,Nat.le_refl _,[],by simp⟩
 | k+1,acc,l,x,r,hl,hP,hm,h=>by
  unfold moreF at h
  split at h
  ·obtain⟨y,r1,e1,e2⟩:=bind_eq_ok h
   obtain⟨p1,p2⟩:=h1 _ _ _ _ hl e1
   obtain⟨q1,q2,q3,y2,q4⟩:=moreF_ok hk h1 k _ _ _ _ (hl.of (hk _) e1) (fun f hf=>by
    rcases List.mem_append.1 hf with hf | hf
    ·exact hP f hf
    ·rw[List.mem_singleton] at hf
     rw[hf]
     exact p1) (by rw[List.length_append,List.length_singleton];omega) e2
   rw[List.length_append,List.length_singleton] at q3
   exact⟨q1,q2,by omega,[y]++y2,by rw[q4];simp⟩
  ·cases h;exact⟨hP,hm,Nat.le_refl _,[],by simp⟩
structure okFroms (l:List Fr):Prop where
 parts:∃ f c o,l=f :: c++o∧f.kind=0∧(∀ x∈c,x.kind=0)∧(∀ x∈o,(x.kind=1∨x.kind=2)∧x.on.length=1)∧c.length≤3∧o.length≤2
 names:∀ x∈l,x.table≠[]∧x.alias≠[]
theorem bTables_ok {z:Nat} {orr:Rd Ex} (hk:Shr orr) {l r:List Tok} {x:List Fr} (hl:Toks z l) (h:bTables z orr l=.ok x r):okFroms x:=by
 obtain⟨f,r1,e1,e2⟩:=bind_eq_ok h
 obtain⟨c,r2,e3,e4⟩:=bind_eq_ok e2
 obtain⟨o,e5,rfl⟩:=map_eq_ok e4
 have t1:=hl.of (bTable_shr z 0 0 4).keep e1
 have t2:=t1.of (moreW_keep fun n=>(bInner_shr z hk n).keep) e3
 obtain⟨a1,a2,a3,-⟩:=bTable_ok hl e1
 obtain⟨b1,b2,-,y,b4⟩:=moreF_ok (P:=fun f=>f.table≠[]∧f.alias≠[]∧f.kind=0) (most:=4) (fun n=>(bInner_shr z hk n).keep) (fun n l f r hl h=>by obtain⟨c1,c2,c3,c4⟩:=bInner_ok hl h;exact⟨⟨c1,c2,c3⟩,c4⟩) _ _ _ _ _ t1 (fun g hg=>by rw[List.mem_singleton] at hg;rw[hg];exact⟨a1,a2,a3⟩) (by simp) e3
 obtain⟨d1,d2,-,-⟩:=moreF_ok (P:=fun f=>f.table≠[]∧f.alias≠[]∧(f.kind=1∨f.kind=2)∧f.on.length=1) (most:=2) (fun n=>(bOuter_shr z hk n).keep) (fun n l f r hl h=>by obtain⟨c1,c2,c3,c4,c5⟩:=bOuter_ok hl h;exact⟨⟨c1,c2,c3,c5⟩,c4⟩) _ _ _ _ _ t2 (fun g hg=>by cases hg) (by simp) e5
 subst b4
 refine⟨⟨f,y,o,by simp,a3,fun x hx=>(b1 x (by simp[hx])).2.2,fun x hx=>(d1 x hx).2.2,by simp at b2;omega,d2⟩,fun x hx=>?_⟩
 rcases List.mem_append.1 hx with hx | hx
 ·exact⟨(b1 x hx).1,(b1 x hx).2.1⟩
 ·exact⟨(d1 x hx).1,(d1 x hx).2.1⟩
structure okSel (s:Sel):Prop where
 items:1≤s.items.length∧s.items.length≤8
 froms:okFroms s.froms
 where_:s.where_.length≤1
 group:s.group.length≤8
theorem bSel_ok {z:Nat} {orr:Rd Ex} (hk:Shr orr) {ahead:Nat} {l r:List Tok} {x:Sel} (hl:Toks z l) (h:bSel z orr ahead l=.ok x r):okSel x∧ahead≠4:=by
 obtain⟨t,l',rfl,-,h2⟩:=need_ok h
 split at h2
 ·cases h2
 ·rename_i h4
  refine⟨?_,h4⟩
  have tl:=(Toks.tail hl).dist
  simp only[List.tail_cons] at tl
  obtain⟨i,r1,e1,e2⟩:=bind_eq_ok h2
  have t1:=tl.of (listP_shr (bItem_shr z hk)).keep e1
  obtain⟨t3,l3,rfl,-,e3⟩:=need_ok e2
  obtain⟨f,r2,e4,e5⟩:=bind_eq_ok e3
  obtain⟨w,r3,e6,e7⟩:=bind_eq_ok e5
  obtain⟨g,e8,rfl⟩:=map_eq_ok e7
  refine⟨listP_most e1,bTables_ok hk (Toks.tail t1) e4,?_,?_⟩
  ·unfold bWhere at e6
   split at e6
   ·obtain⟨y,-,rfl⟩:=map_eq_ok e6;simp
   ·cases e6;simp
  ·unfold bGroup at e8
   split at e8
   ·obtain⟨t9,l9,-,-,e9⟩:=need_ok e8
    exact (listP_most e9).2
   ·cases e8;simp
theorem selsF_ok {z:Nat} {orr:Rd Ex} (hk:Shr orr):∀ (k:Nat) (acc:List Sel) (l:List Tok) (x:List Sel) (r:List Tok),Toks z l→(∀ s∈acc,okSel s)→1≤acc.length→acc.length≤4→selsF z orr k acc l=.ok x r→(∀ s∈x,okSel s)∧1≤x.length∧x.length≤4
 | 0,acc,l,x,r,hl,hP,h1,hm,h=>by cases h;exact⟨hP,h1,hm⟩
 | k+1,acc,l,x,r,hl,hP,h1,hm,h=>by
  unfold selsF at h
  split at h
  ·obtain⟨t2,l2,e2,-,h2⟩:=need_ok h
   obtain⟨y,r1,e1,e3⟩:=bind_eq_ok h2
   have tl:=hl.tail
   rw[e2] at tl
   obtain⟨p1,p2⟩:=bSel_ok hk (Toks.tail tl) e1
   refine selsF_ok hk k _ _ _ _ ((Toks.tail tl).of (bSel_shr z hk _).keep e1) (fun s hs=>?_) (by simp) (by simp;omega) e3
   rcases List.mem_append.1 hs with hs | hs
   ·exact hP s hs
   ·rw[List.mem_singleton] at hs
    rw[hs]
    exact p1
  ·cases h;exact⟨hP,h1,hm⟩
structure okQu (q:Qu):Prop where
 sels:1≤q.sels.length∧q.sels.length≤4
 each:∀ s∈q.sels,okSel s
 order:q.order.length≤8
theorem bQuery_ok {z:Nat} {orr:Rd Ex} (hk:Shr orr) {l r:List Tok} {q:Qu} (hl:Toks z l) (h:bQuery z orr l=.ok q r):okQu q∧r=[]:=by
 obtain⟨s,r1,e1,e2⟩:=bind_eq_ok h
 obtain⟨ss,r2,e3,e4⟩:=bind_eq_ok e2
 obtain⟨o,r3,e5,e6⟩:=bind_eq_ok e4
 cases r3 with
 | cons t r3=>cases e6
 | nil =>
  cases e6
  obtain⟨p1,-⟩:=bSel_ok hk hl e1
  obtain⟨q1,q2,q3⟩:=selsF_ok hk _ _ _ _ _ (hl.of (bSel_shr z hk 0).keep e1) (fun x hx=>by rw[List.mem_singleton] at hx;rw[hx];exact p1) (by simp) (by simp) e3
  refine⟨⟨⟨q2,q3⟩,q1,?_⟩,rfl⟩
  unfold bOrder at e5
  split at e5
  ·obtain⟨t9,l9,-,-,e9⟩:=need_ok e5
   exact (listP_most e9).2
  ·cases e5;simp
theorem parseS_ok {s:Bs} {q:Qu} (h:parseS s=.ok q):okQu q∧s.length≤2000:=by
 unfold parseS at h
 cases hl:lexS s with
 | err e' a'=>rw[hl] at h;cases h
 | ok L =>
  rw[hl] at h
  dsimp only at h
  cases hq:bQuery s.length (lev s.length 60).o L with
  | err e' a'=>rw[hq] at h;cases h
  | ok q r =>
   rw[hq] at h
   cases h
   exact⟨(bQuery_ok (lev_shr _ 60).o (lexS_toks hl).1 hq).1,(lexS_toks hl).2⟩
end Go.Proofs.YtapbglhjamddbaaGreatDoor
