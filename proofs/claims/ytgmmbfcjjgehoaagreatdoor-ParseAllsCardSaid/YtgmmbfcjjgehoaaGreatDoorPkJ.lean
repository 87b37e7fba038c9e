/- Queries out of tokens, told by plain functions. No program is walked here. Reading takes from the beginning on; more steps than tokens are as good as that many. No program is walked here. What tokens may be; places of errors; how long lists are. No program is walked here. What is read of tokens is read of the same tokens elsewhere, with more room, and with more behind them that no reader goes on with. No program is walked here. -/
import Derived.Test.YtgmmbfcjjgehoaaGreatDoorLxT
import Derived.Test.YtgmmbfcjjgehoaaGreatDoorExP
import Derived.Test.YtgmmbfcjjgehoaaGreatDoorBs
namespace Go.Proofs.YtgmmbfcjjgehoaaGreatDoor

/-- What reading answers: an error and its place; or what was read, and what is left. -/
inductive PR (α : Type) where
  | err (e a : Nat)
  | ok (x : α) (r : List Tok)
abbrev Rd (α : Type) := List Tok → PR α
def PR.map {α β : Type} (f : α → β) : PR α → PR β
  | .err e a => .err e a
  | .ok x r => .ok (f x) r
def PR.bind {α β : Type} (x : PR α) (f : α → List Tok → PR β) : PR β :=
  match x with
  | .err e a => .err e a
  | .ok x r => f x r

/-- Where the next token stands; z: where the text ends. -/
def hAt (z : Nat) : List Tok → Nat
  | [] => z
  | t :: _ => t.at_
/-- Is the next token this word or sign? -/
def hSees (s : Bs) : List Tok → Bool
  | [] => false
  | t :: _ => (t.kd == 1 || t.kd == 6) && t.s == s
/-- It is read, or there is an error. -/
def need {α : Type} (z : Nat) (s : Bs) (l : List Tok) (f : List Tok → PR α) : PR α := if hSees s l then f l.tail else .err 7 (hAt z l)

abbrev Ops := List (Bs × Int)
def opOf : Ops → List Tok → Option Int
  | [], _ => none
  | (s, op) :: r, l => if hSees s l then some op else opOf r l

def exZ : Ex := .mk 0 zeroVal 0 0 0 ⟨#[]⟩ []
def exTwo (op : Int) (a b : Ex) : Ex := .mk op zeroVal 0 0 0 ⟨#[]⟩ [a, b]
def exOne (op : Int) (a : Ex) : Ex := .mk op zeroVal 0 0 0 ⟨#[]⟩ [a]
def exKon (v : Val) : Ex := .mk 1 v 0 0 0 ⟨#[]⟩ []
def txtV (s : Bs) : Val := ⟨3, 0, bsB s⟩

def kwOr : Bs := [111, 114]
def kwAnd : Bs := [97, 110, 100]
def kwNot : Bs := [110, 111, 116]
def kwIs : Bs := [105, 115]
def kwNull : Bs := [110, 117, 108, 108]
def kwTrue : Bs := [116, 114, 117, 101]
def kwFalse : Bs := [102, 97, 108, 115, 101]
def kwCount : Bs := [99, 111, 117, 110, 116]
def kwSum : Bs := [115, 117, 109]
def kwMin : Bs := [109, 105, 110]
def kwMax : Bs := [109, 97, 120]
def kwSelect : Bs := [115, 101, 108, 101, 99, 116]
def kwDistinct : Bs := [100, 105, 115, 116, 105, 110, 99, 116]
def kwFrom : Bs := [102, 114, 111, 109]
def kwJoin : Bs := [106, 111, 105, 110]
def kwLeft : Bs := [108, 101, 102, 116]
def kwSemi : Bs := [115, 101, 109, 105]
def kwOn : Bs := [111, 110]
def kwWhere : Bs := [119, 104, 101, 114, 101]
def kwGroup : Bs := [103, 114, 111, 117, 112]
def kwBy : Bs := [98, 121]
def kwUnion : Bs := [117, 110, 105, 111, 110]
def kwAll : Bs := [97, 108, 108]
def kwOrder : Bs := [111, 114, 100, 101, 114]
def kwDesc : Bs := [100, 101, 115, 99]

def opsOr : Ops := [(kwOr, 16)]
def opsAnd : Ops := [(kwAnd, 15)]
def opsSum : Ops := [([43], 4), ([45], 5)]
def opsProd : Ops := [([42], 6), ([47], 7)]
def opsCmp : Ops := [([61], 9), ([60, 62], 10), ([60], 11), ([60, 61], 12), ([62], 13), ([62, 61], 14)]

/-- One, and more of them with an operation between, the leftmost first; in at most that many steps. -/
def chainF (one : Rd Ex) (ops : Ops) : Nat → Ex → List Tok → PR Ex
  | 0, e, l => .ok e l
  | k + 1, e, l => match opOf ops l with
    | none => .ok e l
    | some op => (one l.tail).bind fun y r => chainF one ops k (exTwo op e y) r
def chainW (one : Rd Ex) (ops : Ops) (e : Ex) (l : List Tok) : PR Ex := chainF one ops l.length e l
def chain (one : Rd Ex) (ops : Ops) (l : List Tok) : PR Ex := (one l).bind (chainW one ops)

def bAnd (nt : Rd Ex) : Rd Ex := chain nt opsAnd
def bOr (nt : Rd Ex) : Rd Ex := chain (bAnd nt) opsOr
def bProd (sg : Rd Ex) : Rd Ex := chain sg opsProd
def bSum (sg : Rd Ex) : Rd Ex := chain (bProd sg) opsSum
/-- Behind IS. -/
def bNull (z : Nat) (x : Ex) (l : List Tok) : PR Ex :=
  if hSees kwNot l then need z kwNull l.tail (fun r => .ok (exOne 17 (exOne 18 x)) r) else need z kwNull l (fun r => .ok (exOne 18 x) r)
def bTest (z : Nat) (sg : Rd Ex) (l : List Tok) : PR Ex :=
  (bSum sg l).bind fun x r => if hSees kwIs r then bNull z x r.tail else
    match opOf opsCmp r with
    | none => .ok x r
    | some op => (bSum sg r.tail).map (exTwo op x)
/-- Behind a name. -/
def bCol (z : Nat) (s : Bs) (l : List Tok) : PR Ex :=
  if hSees [46] l then
    match l.tail with
    | [] => .err 7 z
    | t :: r => if t.kd = 2 then .ok (.mk 19 (txtV t.s) 0 0 0 (bsB s) []) r else .err 7 t.at_
  else .ok (.mk 19 (txtV s) 0 0 0 ⟨#[]⟩ []) l
def bAtom (z : Nat) (orr : Rd Ex) : Rd Ex
  | [] => .err 7 z
  | t :: r =>
    if t.kd = 3 then .ok (exKon ⟨1, t.n, ⟨#[]⟩⟩) r
    else if t.kd = 4 then .ok (exKon (txtV t.s)) r
    else if t.kd = 5 then .ok (.mk 3 zeroVal 0 0 t.n ⟨#[]⟩ []) r
    else if t.kd = 2 then bCol z t.s r
    else if hSees kwTrue (t :: r) then .ok (exKon ⟨2, 1, ⟨#[]⟩⟩) r
    else if hSees kwFalse (t :: r) then .ok (exKon ⟨2, 0, ⟨#[]⟩⟩) r
    else if hSees kwNull (t :: r) then .ok (exKon zeroVal) r
    else if hSees [40] (t :: r) then (orr r).bind fun x r2 => need z [41] r2 (fun r3 => .ok x r3)
    else .err 7 t.at_
structure Lev where
  o : Rd Ex
  n : Rd Ex
  s : Rd Ex
/-- An or, a not, a sign, ahead of which there is room for so many of them. -/
def lev (z : Nat) : Nat → Lev
  | 0 => ⟨fun l => .err 5 (hAt z l), fun l => .err 5 (hAt z l), fun l => .err 5 (hAt z l)⟩
  | n + 1 => ⟨bOr (lev z n).n, fun l => if hSees kwNot l then ((lev z n).n l.tail).map (exOne 17) else bTest z (lev z n).s l, fun l => if hSees [45] l then ((lev z n).s l.tail).map (exOne 8) else bAtom z (lev z n).o l⟩

/-- What stands behind the first one of a list: commas, and more; at most eight. -/
def listF {α : Type} (z : Nat) (one : Rd α) : Nat → List α → List Tok → PR (List α)
  | 0, acc, l => .ok acc l
  | k + 1, acc, l => if hSees [44] l then (if acc.length = 8 then .err 5 (hAt z l.tail) else (one l.tail).bind fun x r => listF z one k (acc ++ [x]) r) else .ok acc l
def listW {α : Type} (z : Nat) (one : Rd α) (acc : List α) (l : List Tok) : PR (List α) := listF z one l.length acc l
def listP {α : Type} (z : Nat) (one : Rd α) (l : List Tok) : PR (List α) := (one l).bind fun x r => listW z one [x] r

structure It where
  agg : Int
  e : Ex
structure Fr where
  table : Bs
  alias : Bs
  kind : Int
  on : List Ex
structure Sel where
  distinct : Bool
  items : List It
  froms : List Fr
  where_ : List Ex
  group : List Ex
structure Ky where
  col : Int
  desc : Bool
structure Qu where
  sels : List Sel
  order : List Ky

def opsAgg : Ops := [(kwCount, 2), (kwSum, 3), (kwMin, 4), (kwMax, 5)]
def bItem (z : Nat) (orr : Rd Ex) (l : List Tok) : PR It :=
  match opOf opsAgg l with
  | none => (orr l).map (It.mk 0)
  | some a => need z [40] l.tail fun r => if a = 2 ∧ hSees [42] r = true then need z [41] r.tail (fun r2 => .ok ⟨1, exZ⟩ r2) else (orr r).bind fun x r2 => need z [41] r2 (fun r3 => .ok ⟨a, x⟩ r3)
def bKey (z : Nat) : Rd Ky
  | [] => .err 7 z
  | t :: r => if t.kd = 3 then (if hSees kwDesc r then .ok ⟨(t.n : Int) - 1, true⟩ r.tail else .ok ⟨(t.n : Int) - 1, false⟩ r) else .err 7 t.at_
/-- Behind a table's name. -/
def bAlias (kind : Int) (s : Bs) : Rd Fr
  | [] => .ok ⟨s, s, kind, []⟩ []
  | u :: r => if u.kd = 2 then .ok ⟨s, u.s, kind, []⟩ r else .ok ⟨s, s, kind, []⟩ (u :: r)
def bTable (z : Nat) (kind : Int) (ahead most : Nat) : Rd Fr
  | [] => .err 7 z
  | t :: r => if t.kd = 2 then (if ahead = most then .err 5 t.at_ else bAlias kind t.s r) else .err 7 t.at_
def bJoin (z : Nat) (orr : Rd Ex) (kind : Int) (ahead most : Nat) (l : List Tok) : PR Fr :=
  need z kwJoin l fun r => (bTable z kind ahead most r).bind fun f r2 => need z kwOn r2 fun r3 => (orr r3).map fun x => { f with on := [x] }
def bInner (z : Nat) (orr : Rd Ex) (ahead : Nat) (l : List Tok) : PR Fr :=
  if hSees [44] l then bTable z 0 ahead 4 l.tail else bJoin z orr 0 ahead 4 l
def bOuter (z : Nat) (orr : Rd Ex) (ahead : Nat) (l : List Tok) : PR Fr :=
  if hSees kwLeft l then bJoin z orr 1 ahead 2 l.tail else need z kwSemi l fun r => bJoin z orr 2 ahead 2 r
/-- Tables, as long as one of two words stands ahead. -/
def moreF (a b : Bs) (one : Nat → Rd Fr) : Nat → List Fr → List Tok → PR (List Fr)
  | 0, acc, l => .ok acc l
  | k + 1, acc, l => if hSees a l || hSees b l then (one acc.length l).bind fun x r => moreF a b one k (acc ++ [x]) r else .ok acc l
def moreW (a b : Bs) (one : Nat → Rd Fr) (acc : List Fr) (l : List Tok) : PR (List Fr) := moreF a b one l.length acc l
def bTables (z : Nat) (orr : Rd Ex) (l : List Tok) : PR (List Fr) :=
  (bTable z 0 0 4 l).bind fun f r => (moreW [44] kwJoin (bInner z orr) [f] r).bind fun c r2 => (moreW kwLeft kwSemi (bOuter z orr) [] r2).map fun o => c ++ o
def bDist (l : List Tok) : Bool × List Tok := if hSees kwDistinct l then (true, l.tail) else (false, l)
def bWhere (orr : Rd Ex) (l : List Tok) : PR (List Ex) := if hSees kwWhere l then (orr l.tail).map (fun x => [x]) else .ok [] l
def bGroup (z : Nat) (orr : Rd Ex) (l : List Tok) : PR (List Ex) := if hSees kwGroup l then need z kwBy l.tail (listP z orr) else .ok [] l
def bSel2 (z : Nat) (orr : Rd Ex) (l : List Tok) : PR Sel :=
  (listP z (bItem z orr) (bDist l).2).bind fun i r => need z kwFrom r fun r2 => (bTables z orr r2).bind fun f r3 => (bWhere orr r3).bind fun w r4 => (bGroup z orr r4).map fun g => ⟨(bDist l).1, i, f, w, g⟩
def bSel (z : Nat) (orr : Rd Ex) (ahead : Nat) (l : List Tok) : PR Sel :=
  need z kwSelect l fun r => if ahead = 4 then .err 5 (hAt z l) else bSel2 z orr r
def selsF (z : Nat) (orr : Rd Ex) : Nat → List Sel → List Tok → PR (List Sel)
  | 0, acc, l => .ok acc l
  | k + 1, acc, l => if hSees kwUnion l then need z kwAll l.tail fun r => (bSel z orr acc.length r).bind fun x r2 => selsF z orr k (acc ++ [x]) r2 else .ok acc l
def selsW (z : Nat) (orr : Rd Ex) (acc : List Sel) (l : List Tok) : PR (List Sel) := selsF z orr l.length acc l
def bOrder (z : Nat) (l : List Tok) : PR (List Ky) := if hSees kwOrder l then need z kwBy l.tail (listP z (bKey z)) else .ok [] l
def bEnd {α : Type} (x : α) : Rd α
  | [] => .ok x []
  | t :: _ => .err 7 t.at_
def bQuery (z : Nat) (orr : Rd Ex) (l : List Tok) : PR Qu :=
  (bSel z orr 0 l).bind fun s r => (selsW z orr [s] r).bind fun ss r2 => (bOrder z r2).bind fun o r3 => bEnd ⟨ss, o⟩ r3
/-- The whole: the query; or the error, its place. -/
inductive PQ where
  | err (e a : Nat)
  | ok (q : Qu)
def parseS (s : Bs) : PQ :=
  match lexS s with
  | .err e a => .err e a
  | .ok L => match bQuery s.length (lev s.length 60).o L with
    | .err e a => .err e a
    | .ok q _ => .ok q

end Go.Proofs.YtgmmbfcjjgehoaaGreatDoor

namespace Go.Proofs.YtgmmbfcjjgehoaaGreatDoor

theorem bind_err {α β : Type} (e a : Nat) (f : α → List Tok → PR β) : (PR.err e a).bind f = .err e a := rfl
theorem bind_ok {α β : Type} (x : α) (r : List Tok) (f : α → List Tok → PR β) : (PR.ok x r).bind f = f x r := rfl
theorem map_bind {α β : Type} (g : α → β) (x : PR α) : x.map g = x.bind fun y r => .ok (g y) r := by cases x <;> rfl
theorem bind_eq_ok {α β : Type} {x : PR α} {f : α → List Tok → PR β} {y : β} {r : List Tok} (h : x.bind f = .ok y r) : ∃ z r1, x = .ok z r1 ∧ f z r1 = .ok y r := by
  cases x with
  | err e a => cases h
  | ok z r1 => exact ⟨z, r1, rfl, h⟩
theorem map_eq_ok {α β : Type} {x : PR α} {f : α → β} {y : β} {r : List Tok} (h : x.map f = .ok y r) : ∃ z, x = .ok z r ∧ y = f z := by
  cases x with
  | err e a => cases h
  | ok z r1 => cases h; exact ⟨z, rfl, rfl⟩
theorem sees_cons {s : Bs} {l : List Tok} (h : hSees s l = true) : ∃ t r, l = t :: r ∧ (t.kd = 1 ∨ t.kd = 6) ∧ t.s = s := by
  cases l with
  | nil => cases h
  | cons t r =>
    refine ⟨t, r, rfl, ?_⟩
    simpa [hSees] using h
theorem opOf_cons {ops : Ops} {l : List Tok} {op : Int} (h : opOf ops l = some op) : ∃ t r, l = t :: r := by
  induction ops with
  | nil => cases h
  | cons a ops ih =>
    unfold opOf at h
    split at h
    · rename_i hs
      obtain ⟨t, r, e, _⟩ := sees_cons hs
      exact ⟨t, r, e⟩
    · exact ih h
theorem opOf_nil (ops : Ops) : opOf ops [] = none := by
  cases h : opOf ops [] with
  | none => rfl
  | some op => obtain ⟨t, r, e⟩ := opOf_cons h; cases e
theorem need_ok {α : Type} {z : Nat} {s : Bs} {l : List Tok} {f : List Tok → PR α} {x : α} {r : List Tok} (h : need z s l f = .ok x r) : ∃ t l', l = t :: l' ∧ hSees s l = true ∧ f l' = .ok x r := by
  unfold need at h
  split at h
  · rename_i hs
    obtain ⟨t, r', e, _⟩ := sees_cons hs
    subst e
    exact ⟨t, r', rfl, hs, h⟩
  · cases h

/-- Reading takes something from the beginning. -/
def Shr {α : Type} (f : Rd α) : Prop := ∀ l x r, f l = .ok x r → ∃ p, l = p ++ r ∧ p ≠ []
/-- .. or nothing. -/
def Keep {α : Type} (f : Rd α) : Prop := ∀ l x r, f l = .ok x r → ∃ p, l = p ++ r
theorem Shr.keep {α : Type} {f : Rd α} (h : Shr f) : Keep f := fun l x r e => (h l x r e).imp fun _ h => h.1
theorem Shr.len {α : Type} {f : Rd α} (h : Shr f) {l : List Tok} {x : α} {r : List Tok} (e : f l = .ok x r) : r.length < l.length := by
  obtain ⟨p, rfl, hp⟩ := h l x r e
  have := List.length_pos_iff.2 hp
  rw [List.length_append]
  omega
theorem Keep.len {α : Type} {f : Rd α} (h : Keep f) {l : List Tok} {x : α} {r : List Tok} (e : f l = .ok x r) : r.length ≤ l.length := by
  obtain ⟨p, rfl⟩ := h l x r e
  rw [List.length_append]
  omega

theorem chainF_keep {one : Rd Ex} (h1 : Keep one) (ops : Ops) : ∀ (k : Nat) (e : Ex), Keep (chainF one ops k e)
  | 0, e, l, x, r, h => by cases h; exact ⟨[], rfl⟩
  | k + 1, e, l, x, r, h => by
    unfold chainF at h
    cases ho : opOf ops l with
    | none => rw [ho] at h; cases h; exact ⟨[], rfl⟩
    | some op =>
      rw [ho] at h
      obtain ⟨t, l', rfl⟩ := opOf_cons ho
      obtain ⟨y, r1, e1, e2⟩ := bind_eq_ok h
      obtain ⟨p, hp⟩ := h1 _ _ _ e1
      obtain ⟨p2, hp2⟩ := chainF_keep h1 ops k _ _ _ _ e2
      exact ⟨t :: p ++ p2, by simp only [List.tail_cons] at hp; rw [hp, hp2]; simp⟩
theorem chain_shr {one : Rd Ex} (h1 : Shr one) (ops : Ops) : Shr (chain one ops) := fun l x r h => by
  obtain ⟨y, r1, e1, e2⟩ := bind_eq_ok h
  obtain ⟨p, rfl, hp⟩ := h1 _ _ _ e1
  obtain ⟨p2, rfl⟩ := chainF_keep h1.keep ops _ _ _ _ _ e2
  exact ⟨p ++ p2, by simp, by simp [hp]⟩
theorem chainF_more {one : Rd Ex} (h1 : Keep one) (ops : Ops) : ∀ (k m : Nat) (e : Ex) (l : List Tok), l.length ≤ k → l.length ≤ m → chainF one ops k e l = chainF one ops m e l
  | 0, 0, _, _, _, _ => rfl
  | 0, m + 1, e, l, h, _ => by
    obtain rfl : l = [] := List.length_eq_zero_iff.1 (by omega)
    unfold chainF
    rw [opOf_nil]
  | k + 1, 0, e, l, _, h => by
    obtain rfl : l = [] := List.length_eq_zero_iff.1 (by omega)
    unfold chainF
    rw [opOf_nil]
  | k + 1, m + 1, e, l, hk, hm => by
    unfold chainF
    cases ho : opOf ops l with
    | none => rfl
    | some op =>
      obtain ⟨t, l', rfl⟩ := opOf_cons ho
      simp only [List.tail_cons]
      cases h : one l' with
      | err => rfl
      | ok y r =>
        have := h1.len h
        simp only [List.length_cons] at hk hm
        exact chainF_more h1 ops k m _ _ (by omega) (by omega)
theorem chainW_none {one : Rd Ex} {ops : Ops} {e : Ex} {l : List Tok} (h : opOf ops l = none) : chainW one ops e l = .ok e l := by
  unfold chainW
  cases l with
  | nil => rfl
  | cons t r => rw [List.length_cons, chainF, h]
theorem chainW_err {one : Rd Ex} {ops : Ops} {e : Ex} {l : List Tok} {op : Int} {er a : Nat} (h : opOf ops l = some op) (h2 : one l.tail = .err er a) : chainW one ops e l = .err er a := by
  unfold chainW
  obtain ⟨t, r, rfl⟩ := opOf_cons h
  rw [List.length_cons, chainF, h]
  simp only
  rw [h2]
  rfl
theorem chainW_some {one : Rd Ex} (h1 : Keep one) {ops : Ops} {e y : Ex} {l r : List Tok} {op : Int} (h : opOf ops l = some op) (h2 : one l.tail = .ok y r) : chainW one ops e l = chainW one ops (exTwo op e y) r := by
  unfold chainW
  obtain ⟨t, l', rfl⟩ := opOf_cons h
  rw [List.length_cons, chainF, h]
  simp only
  rw [h2]
  have := h1.len h2
  exact chainF_more h1 ops _ _ _ _ this (Nat.le_refl _)

theorem need_shr {α : Type} {z : Nat} {s : Bs} {f : Rd α} (h : Keep f) : Shr (fun l => need z s l f) := fun l x r e => by
  obtain ⟨t, l', rfl, -, h2⟩ := need_ok e
  obtain ⟨p, hp⟩ := h _ _ _ h2
  exact ⟨t :: p, by rw [hp]; rfl, by simp⟩
theorem ok_keep {α : Type} (x : α) : Keep (fun l => PR.ok x l) := fun l y r h => by cases h; exact ⟨[], rfl⟩
theorem bind_shr {α β : Type} {f : Rd α} {g : α → Rd β} (h1 : Shr f) (h2 : ∀ x, Keep (g x)) : Shr (fun l => (f l).bind g) := fun l x r e => by
  obtain ⟨y, r1, e1, e2⟩ := bind_eq_ok e
  obtain ⟨p, rfl, hp⟩ := h1 _ _ _ e1
  obtain ⟨p2, rfl⟩ := h2 y _ _ _ e2
  exact ⟨p ++ p2, by simp, by simp [hp]⟩
theorem bind_keep {α β : Type} {f : Rd α} {g : α → Rd β} (h1 : Keep f) (h2 : ∀ x, Keep (g x)) : Keep (fun l => (f l).bind g) := fun l x r e => by
  obtain ⟨y, r1, e1, e2⟩ := bind_eq_ok e
  obtain ⟨p, rfl⟩ := h1 _ _ _ e1
  obtain ⟨p2, rfl⟩ := h2 y _ _ _ e2
  exact ⟨p ++ p2, by simp⟩
theorem map_shr {α β : Type} {f : Rd α} {g : α → β} (h1 : Shr f) : Shr (fun l => (f l).map g) := fun l x r e => by
  obtain ⟨y, e1, -⟩ := map_eq_ok e
  exact h1 _ _ _ e1
theorem map_keep {α β : Type} {f : Rd α} {g : α → β} (h1 : Keep f) : Keep (fun l => (f l).map g) := fun l x r e => by
  obtain ⟨y, e1, -⟩ := map_eq_ok e
  exact h1 _ _ _ e1
/-- A word taken, then the rest. -/
theorem tail_keep {α : Type} {f : Rd α} (h : Keep f) : Keep (fun l => f l.tail) := fun l x r e => by
  obtain ⟨p, hp⟩ := h _ _ _ e
  cases l with
  | nil => exact ⟨p, hp⟩
  | cons t l' => exact ⟨t :: p, by simp only [List.tail_cons] at hp; rw [hp]; rfl⟩
theorem tail_shr {α : Type} {f : Rd α} (h : Shr f) : Shr (fun l => f l.tail) := fun l x r e => by
  obtain ⟨p, hp, hn⟩ := h _ _ _ e
  cases l with
  | nil => exact ⟨p, hp, hn⟩
  | cons t l' => exact ⟨t :: p, by simp only [List.tail_cons] at hp; rw [hp]; rfl, by simp⟩
theorem ite_shr {α : Type} {c : List Tok → Bool} {f g : Rd α} (h1 : Shr f) (h2 : Shr g) : Shr (fun l => if c l = true then f l else g l) := fun l x r e => by
  (try dsimp only at e)
  split at e
  · exact h1 _ _ _ e
  · exact h2 _ _ _ e
theorem ite_keep {α : Type} {c : List Tok → Bool} {f g : Rd α} (h1 : Keep f) (h2 : Keep g) : Keep (fun l => if c l = true then f l else g l) := fun l x r e => by
  (try dsimp only at e)
  split at e
  · exact h1 _ _ _ e
  · exact h2 _ _ _ e
theorem err_shr {α : Type} (f : List Tok → Nat × Nat) : Shr (α := α) (fun l => PR.err (f l).1 (f l).2) := fun l x r e => by cases e

theorem bSum_shr {sg : Rd Ex} (h : Shr sg) : Shr (bSum sg) := chain_shr (chain_shr h _) _
theorem bNull_keep (z : Nat) (x : Ex) : Keep (bNull z x) := ite_keep (tail_keep (need_shr (ok_keep _)).keep) (need_shr (ok_keep _)).keep
theorem bTest_shr (z : Nat) {sg : Rd Ex} (h : Shr sg) : Shr (bTest z sg) := bind_shr (bSum_shr h) fun x => ite_keep (tail_keep (bNull_keep z x)) fun l y r e => by
  (try dsimp only at e)
  cases ho : opOf opsCmp l with
  | none => rw [ho] at e; cases e; exact ⟨[], rfl⟩
  | some op =>
    rw [ho] at e
    exact tail_keep (map_keep (bSum_shr h).keep) _ _ _ e
theorem bCol_keep (z : Nat) (s : Bs) : Keep (bCol z s) := fun l x r e => by
  unfold bCol at e
  split at e
  · rename_i hs
    obtain ⟨t, l', rfl, -, -⟩ := sees_cons hs
    cases l' with
    | nil => cases e
    | cons t' r' =>
      simp only [List.tail_cons] at e
      split at e
      · cases e; exact ⟨[t, t'], rfl⟩
      · cases e
  · cases e; exact ⟨[], rfl⟩
theorem bAtom_shr (z : Nat) {orr : Rd Ex} (h : Shr orr) : Shr (bAtom z orr) := fun l x r e => by
  cases l with
  | nil => cases e
  | cons t l' =>
    rw [bAtom] at e
    split at e
    · cases e; exact ⟨[t], rfl, by simp⟩
    split at e
    · cases e; exact ⟨[t], rfl, by simp⟩
    split at e
    · cases e; exact ⟨[t], rfl, by simp⟩
    split at e
    · obtain ⟨p, hp⟩ := bCol_keep z t.s _ _ _ e
      exact ⟨t :: p, by rw [hp]; rfl, by simp⟩
    split at e
    · cases e; exact ⟨[t], rfl, by simp⟩
    split at e
    · cases e; exact ⟨[t], rfl, by simp⟩
    split at e
    · cases e; exact ⟨[t], rfl, by simp⟩
    split at e
    · obtain ⟨p, hp⟩ := (bind_shr h fun y => (need_shr (z := z) (s := [41]) (ok_keep y)).keep).keep l' x r e
      exact ⟨t :: p, by rw [hp]; rfl, by simp⟩
    · cases e
structure LevShr (L : Lev) : Prop where
  o : Shr L.o
  n : Shr L.n
  s : Shr L.s
theorem lev_shr (z : Nat) : ∀ n, LevShr (lev z n)
  | 0 => ⟨err_shr fun l => (5, hAt z l), err_shr fun l => (5, hAt z l), err_shr fun l => (5, hAt z l)⟩
  | n + 1 => by
    have h := lev_shr z n
    exact ⟨chain_shr (chain_shr h.n _) _, ite_shr (map_shr (tail_shr h.n)) (bTest_shr z h.s), ite_shr (map_shr (tail_shr h.s)) (bAtom_shr z h.o)⟩

theorem listF_keep {α : Type} {z : Nat} {one : Rd α} (h1 : Keep one) : ∀ (k : Nat) (acc : List α), Keep (listF z one k acc)
  | 0, e, l, x, r, h => by cases h; exact ⟨[], rfl⟩
  | k + 1, acc, l, x, r, h => by
    unfold listF at h
    split at h
    · rename_i hs
      obtain ⟨t, l', rfl, -, -⟩ := sees_cons hs
      split at h
      · cases h
      · obtain ⟨y, r1, e1, e2⟩ := bind_eq_ok h
        obtain ⟨p, hp⟩ := h1 _ _ _ e1
        obtain ⟨p2, hp2⟩ := listF_keep h1 k _ _ _ _ e2
        exact ⟨t :: p ++ p2, by simp only [List.tail_cons] at hp; rw [hp, hp2]; simp⟩
    · cases h; exact ⟨[], rfl⟩
theorem listP_shr {α : Type} {z : Nat} {one : Rd α} (h1 : Shr one) : Shr (listP z one) := fun l x r h => by
  obtain ⟨y, r1, e1, e2⟩ := bind_eq_ok h
  obtain ⟨p, rfl, hp⟩ := h1 _ _ _ e1
  obtain ⟨p2, rfl⟩ := listF_keep h1.keep _ _ _ _ _ e2
  exact ⟨p ++ p2, by simp, by simp [hp]⟩
theorem listF_more {α : Type} {z : Nat} {one : Rd α} (h1 : Keep one) : ∀ (k m : Nat) (acc : List α) (l : List Tok), l.length ≤ k → l.length ≤ m → listF z one k acc l = listF z one m acc l
  | 0, 0, _, _, _, _ => rfl
  | 0, m + 1, e, l, h, _ => by
    obtain rfl : l = [] := List.length_eq_zero_iff.1 (by omega)
    unfold listF
    rfl
  | k + 1, 0, e, l, _, h => by
    obtain rfl : l = [] := List.length_eq_zero_iff.1 (by omega)
    unfold listF
    rfl
  | k + 1, m + 1, acc, l, hk, hm => by
    unfold listF
    split
    · rename_i hs
      obtain ⟨t, l', rfl, -, -⟩ := sees_cons hs
      split
      · rfl
      · simp only [List.tail_cons]
        cases h : one l' with
        | err => rfl
        | ok y r =>
          have := h1.len h
          simp only [List.length_cons] at hk hm
          exact listF_more h1 k m _ _ (by omega) (by omega)
    · rfl
theorem listW_none {α : Type} {z : Nat} {one : Rd α} {acc : List α} {l : List Tok} (h : hSees [44] l = false) : listW z one acc l = .ok acc l := by
  unfold listW
  cases l with
  | nil => rfl
  | cons t r => rw [List.length_cons, listF, h]; rfl
theorem listW_full {α : Type} {z : Nat} {one : Rd α} {acc : List α} {l : List Tok} (h : hSees [44] l = true) (h8 : acc.length = 8) : listW z one acc l = .err 5 (hAt z l.tail) := by
  unfold listW
  obtain ⟨t, r, rfl, -, -⟩ := sees_cons h
  rw [List.length_cons, listF, h, if_pos rfl, if_pos h8]
theorem listW_err {α : Type} {z : Nat} {one : Rd α} {acc : List α} {l : List Tok} {er a : Nat} (h : hSees [44] l = true) (h8 : acc.length ≠ 8) (h2 : one l.tail = .err er a) : listW z one acc l = .err er a := by
  unfold listW
  obtain ⟨t, r, rfl, -, -⟩ := sees_cons h
  rw [List.length_cons, listF, h, if_pos rfl, if_neg h8, h2]
  rfl
theorem listW_some {α : Type} {z : Nat} {one : Rd α} (h1 : Keep one) {acc : List α} {l r : List Tok} {x : α} (h : hSees [44] l = true) (h8 : acc.length ≠ 8) (h2 : one l.tail = .ok x r) : listW z one acc l = listW z one (acc ++ [x]) r := by
  unfold listW
  obtain ⟨t, l', rfl, -, -⟩ := sees_cons h
  rw [List.length_cons, listF, h, if_pos rfl, if_neg h8, h2]
  have := h1.len h2
  exact listF_more h1 _ _ _ _ this (Nat.le_refl _)

theorem bItem_shr (z : Nat) {orr : Rd Ex} (h : Shr orr) : Shr (bItem z orr) := fun l x r e => by
  unfold bItem at e
  cases ho : opOf opsAgg l with
  | none => rw [ho] at e; exact map_shr h _ _ _ e
  | some a =>
    rw [ho] at e
    obtain ⟨t, l', rfl⟩ := opOf_cons ho
    obtain ⟨t2, l2, e2, -, h2⟩ := need_ok e
    simp only [List.tail_cons] at e2
    subst e2
    (try dsimp only at h2)
    split at h2
    · rename_i hs
      obtain ⟨t3, l3, rfl, -, -⟩ := sees_cons hs.2
      obtain ⟨t4, l4, e4, -, h4⟩ := need_ok h2
      simp only [List.tail_cons] at e4
      subst e4
      cases h4
      exact ⟨[t, t2, t3, t4], rfl, by simp⟩
    · obtain ⟨p, hp⟩ := (bind_shr h fun y => (need_shr (z := z) (s := [41]) (ok_keep (It.mk a y))).keep).keep l2 x r h2
      exact ⟨t :: t2 :: p, by rw [hp]; rfl, by simp⟩
theorem bKey_shr (z : Nat) : Shr (bKey z) := fun l x r e => by
  cases l with
  | nil => cases e
  | cons t l' =>
    rw [bKey] at e
    split at e
    · split at e
      · rename_i hs
        obtain ⟨t2, l2, rfl, -, -⟩ := sees_cons hs
        cases e
        exact ⟨[t, t2], rfl, by simp⟩
      · cases e; exact ⟨[t], rfl, by simp⟩
    · cases e
theorem bTable_shr (z : Nat) (kind : Int) (ahead most : Nat) : Shr (bTable z kind ahead most) := fun l x r e => by
  cases l with
  | nil => cases e
  | cons t l' =>
    rw [bTable] at e
    split at e
    · split at e
      · cases e
      · cases l' with
        | nil => rw [bAlias] at e; cases e; exact ⟨[t], rfl, by simp⟩
        | cons u r2 =>
          rw [bAlias] at e
          split at e
          · cases e; exact ⟨[t, u], rfl, by simp⟩
          · cases e; exact ⟨[t], rfl, by simp⟩
    · cases e
theorem bJoin_shr (z : Nat) {orr : Rd Ex} (h : Shr orr) (kind : Int) (ahead most : Nat) : Shr (bJoin z orr kind ahead most) :=
  need_shr (bind_shr (bTable_shr z kind ahead most) fun _ => (need_shr (map_keep h.keep)).keep).keep
theorem bInner_shr (z : Nat) {orr : Rd Ex} (h : Shr orr) (ahead : Nat) : Shr (bInner z orr ahead) := ite_shr (tail_shr (bTable_shr z 0 ahead 4)) (bJoin_shr z h 0 ahead 4)
theorem bOuter_shr (z : Nat) {orr : Rd Ex} (h : Shr orr) (ahead : Nat) : Shr (bOuter z orr ahead) := ite_shr (tail_shr (bJoin_shr z h 1 ahead 2)) (need_shr (bJoin_shr z h 2 ahead 2).keep)
theorem moreF_keep {a b : Bs} {one : Nat → Rd Fr} (h1 : ∀ n, Keep (one n)) : ∀ (k : Nat) (acc : List Fr), Keep (moreF a b one k acc)
  | 0, e, l, x, r, h => by cases h; exact ⟨[], rfl⟩
  | k + 1, acc, l, x, r, h => by
    unfold moreF at h
    split at h
    · obtain ⟨y, r1, e1, e2⟩ := bind_eq_ok h
      obtain ⟨p, hp⟩ := h1 _ _ _ _ e1
      obtain ⟨p2, hp2⟩ := moreF_keep h1 k _ _ _ _ e2
      exact ⟨p ++ p2, by rw [hp, hp2]; simp⟩
    · cases h; exact ⟨[], rfl⟩
theorem moreF_more {a b : Bs} {one : Nat → Rd Fr} (h1 : ∀ n, Shr (one n)) : ∀ (k m : Nat) (acc : List Fr) (l : List Tok), l.length ≤ k → l.length ≤ m → moreF a b one k acc l = moreF a b one m acc l
  | 0, 0, _, _, _, _ => rfl
  | 0, m + 1, e, l, h, _ => by
    obtain rfl : l = [] := List.length_eq_zero_iff.1 (by omega)
    unfold moreF
    rfl
  | k + 1, 0, e, l, _, h => by
    obtain rfl : l = [] := List.length_eq_zero_iff.1 (by omega)
    unfold moreF
    rfl
  | k + 1, m + 1, acc, l, hk, hm => by
    unfold moreF
    split
    · cases h : one acc.length l with
      | err => rfl
      | ok y r =>
        have := (h1 _).len h
        exact moreF_more h1 k m _ _ (by omega) (by omega)
    · rfl
theorem moreW_none {a b : Bs} {one : Nat → Rd Fr} {acc : List Fr} {l : List Tok} (h : (hSees a l || hSees b l) = false) : moreW a b one acc l = .ok acc l := by
  unfold moreW
  cases l with
  | nil => rfl
  | cons t r => rw [List.length_cons, moreF, h]; rfl
theorem or_cons {a b : Bs} {l : List Tok} (h : (hSees a l || hSees b l) = true) : ∃ t r, l = t :: r := by
  rw [Bool.or_eq_true] at h
  rcases h with h | h
  all_goals obtain ⟨t, r, e, _⟩ := sees_cons h; exact ⟨t, r, e⟩
theorem moreW_err {a b : Bs} {one : Nat → Rd Fr} {acc : List Fr} {l : List Tok} {er p : Nat} (h : (hSees a l || hSees b l) = true) (h2 : one acc.length l = .err er p) : moreW a b one acc l = .err er p := by
  unfold moreW
  obtain ⟨t, r, rfl⟩ := or_cons h
  rw [List.length_cons, moreF, h, if_pos rfl, h2]
  rfl
theorem moreW_some {a b : Bs} {one : Nat → Rd Fr} (h1 : ∀ n, Shr (one n)) {acc : List Fr} {l r : List Tok} {x : Fr} (h : (hSees a l || hSees b l) = true) (h2 : one acc.length l = .ok x r) : moreW a b one acc l = moreW a b one (acc ++ [x]) r := by
  unfold moreW
  obtain ⟨t, l', rfl⟩ := or_cons h
  rw [List.length_cons, moreF, h, if_pos rfl, h2]
  have := (h1 _).len h2
  simp only [List.length_cons] at this
  exact moreF_more h1 _ _ _ _ (by omega) (Nat.le_refl _)
theorem bTables_shr (z : Nat) {orr : Rd Ex} (h : Shr orr) : Shr (bTables z orr) :=
  bind_shr (bTable_shr z 0 0 4) fun _ => bind_keep (moreF_keepW fun n => (bInner_shr z h n).keep) fun _ => map_keep (moreF_keepW fun n => (bOuter_shr z h n).keep)
where
  moreF_keepW {a b : Bs} {one : Nat → Rd Fr} {acc : List Fr} (h1 : ∀ n, Keep (one n)) : Keep (moreW a b one acc) := fun _ _ _ e => moreF_keep h1 _ _ _ _ _ e
theorem bWhere_keep {orr : Rd Ex} (h : Shr orr) : Keep (bWhere orr) := ite_keep (tail_keep (map_keep h.keep)) (ok_keep _)
theorem bGroup_keep (z : Nat) {orr : Rd Ex} (h : Shr orr) : Keep (bGroup z orr) := ite_keep (tail_keep (need_shr (listP_shr h).keep).keep) (ok_keep _)
theorem bDist_app (l : List Tok) : ∃ p, l = p ++ (bDist l).2 := by
  unfold bDist
  split
  · rename_i hs
    obtain ⟨t, r, rfl, -, -⟩ := sees_cons hs
    exact ⟨[t], rfl⟩
  · exact ⟨[], rfl⟩
theorem bSel2_keep (z : Nat) {orr : Rd Ex} (h : Shr orr) : Keep (bSel2 z orr) := fun l x r e => by
  obtain ⟨p, hp⟩ := bDist_app l
  unfold bSel2 at e
  obtain ⟨p2, hp2⟩ := (bind_keep (listP_shr (bItem_shr z h)).keep fun i => (need_shr (z := z) (s := kwFrom) (bind_keep (bTables_shr z h).keep fun f => bind_keep (bWhere_keep h) fun w => map_keep (g := fun g => Sel.mk (bDist l).1 i f w g) (bGroup_keep z h))).keep) (bDist l).2 x r e
  exact ⟨p ++ p2, by rw [List.append_assoc, ← hp2, ← hp]⟩
theorem bSel_shr (z : Nat) {orr : Rd Ex} (h : Shr orr) (ahead : Nat) : Shr (bSel z orr ahead) := fun l x r e => by
  unfold bSel at e
  by_cases ha : ahead = 4
  · obtain ⟨t, l', rfl, -, h2⟩ := need_ok e
    rw [if_pos ha] at h2
    cases h2
  · simp only [if_neg ha] at e
    exact need_shr (bSel2_keep z h) _ _ _ e
theorem selsF_more {z : Nat} {orr : Rd Ex} (h1 : Shr orr) : ∀ (k m : Nat) (acc : List Sel) (l : List Tok), l.length ≤ k → l.length ≤ m → selsF z orr k acc l = selsF z orr m acc l
  | 0, 0, _, _, _, _ => rfl
  | 0, m + 1, e, l, h, _ => by
    obtain rfl : l = [] := List.length_eq_zero_iff.1 (by omega)
    unfold selsF
    rfl
  | k + 1, 0, e, l, _, h => by
    obtain rfl : l = [] := List.length_eq_zero_iff.1 (by omega)
    unfold selsF
    rfl
  | k + 1, m + 1, acc, l, hk, hm => by
    unfold selsF
    split
    · rename_i hs
      obtain ⟨t, l', rfl, -, -⟩ := sees_cons hs
      unfold need
      split
      · rename_i hs2
        simp only [List.tail_cons] at hs2 ⊢
        obtain ⟨t2, l2, rfl, -, -⟩ := sees_cons hs2
        simp only [List.tail_cons]
        cases h : bSel z orr acc.length l2 with
        | err => rfl
        | ok y r =>
          have := (bSel_shr z h1 _).len h
          simp only [List.length_cons] at hk hm
          exact selsF_more h1 k m _ _ (by omega) (by omega)
      · rfl
    · rfl
theorem selsF_keep {z : Nat} {orr : Rd Ex} (h1 : Shr orr) : ∀ (k : Nat) (acc : List Sel), Keep (selsF z orr k acc)
  | 0, e, l, x, r, h => by cases h; exact ⟨[], rfl⟩
  | k + 1, acc, l, x, r, h => by
    unfold selsF at h
    split at h
    · rename_i hs
      obtain ⟨t, l', rfl, -, -⟩ := sees_cons hs
      obtain ⟨t2, l2, e2, -, h2⟩ := need_ok h
      simp only [List.tail_cons] at e2
      subst e2
      obtain ⟨y, r1, e1, e3⟩ := bind_eq_ok h2
      obtain ⟨p, hp, -⟩ := bSel_shr z h1 _ _ _ _ e1
      obtain ⟨p2, hp2⟩ := selsF_keep h1 k _ _ _ _ e3
      exact ⟨t :: t2 :: p ++ p2, by rw [hp, hp2]; simp⟩
    · cases h; exact ⟨[], rfl⟩
theorem selsW_none {z : Nat} {orr : Rd Ex} {acc : List Sel} {l : List Tok} (h : hSees kwUnion l = false) : selsW z orr acc l = .ok acc l := by
  unfold selsW
  cases l with
  | nil => rfl
  | cons t r => rw [List.length_cons, selsF, h]; rfl
theorem selsW_all {z : Nat} {orr : Rd Ex} {acc : List Sel} {l : List Tok} (h : hSees kwUnion l = true) (h2 : hSees kwAll l.tail = false) : selsW z orr acc l = .err 7 (hAt z l.tail) := by
  unfold selsW
  obtain ⟨t, r, rfl, -, -⟩ := sees_cons h
  rw [List.length_cons, selsF, h, if_pos rfl, need, h2]
  rfl
theorem selsW_err {z : Nat} {orr : Rd Ex} {acc : List Sel} {l : List Tok} {er a : Nat} (h : hSees kwUnion l = true) (h2 : hSees kwAll l.tail = true) (h3 : bSel z orr acc.length l.tail.tail = .err er a) : selsW z orr acc l = .err er a := by
  unfold selsW
  obtain ⟨t, r, rfl, -, -⟩ := sees_cons h
  rw [List.length_cons, selsF, h, if_pos rfl, need, h2, if_pos rfl, h3]
  rfl
theorem selsW_some {z : Nat} {orr : Rd Ex} (h1 : Shr orr) {acc : List Sel} {l r : List Tok} {x : Sel} (h : hSees kwUnion l = true) (h2 : hSees kwAll l.tail = true) (h3 : bSel z orr acc.length l.tail.tail = .ok x r) : selsW z orr acc l = selsW z orr (acc ++ [x]) r := by
  unfold selsW
  obtain ⟨t, l', rfl, -, -⟩ := sees_cons h
  rw [List.length_cons, selsF, h, if_pos rfl, need, h2, if_pos rfl, h3]
  have := (bSel_shr z h1 _).len h3
  simp only [List.length_tail, List.length_cons] at this
  exact selsF_more h1 _ _ _ _ (by omega) (Nat.le_refl _)

end Go.Proofs.YtgmmbfcjjgehoaaGreatDoor

namespace Go.Proofs.YtgmmbfcjjgehoaaGreatDoor

/-- A token as Lex makes them. -/
structure Tok.Wf (t : Tok) : Prop where
  kd : 1 ≤ t.kd ∧ t.kd ≤ 6
  word : t.kd = 1 → t.s ∈ lexWords
  name : t.kd = 2 → t.s ≠ [] ∧ t.s.length ≤ 20
  num : t.n ≤ 9223372036854775807
  text : t.s.length ≤ 40
  sign : t.kd = 6 → t.s = [60, 61] ∨ t.s = [62, 61] ∨ t.s = [60, 62] ∨ ∃ b ∈ singles, t.s = [b]

theorem signOf_shape {l s : Bs} (h : signOf l = some s) : s = [60, 61] ∨ s = [62, 61] ∨ s = [60, 62] ∨ ∃ b ∈ singles, s = [b] := by
  match l, h with
  | [], h => cases h
  | [b], h =>
    rw [signOf_one] at h
    split at h
    · rename_i hb; cases h; exact .inr (.inr (.inr ⟨b, hb, rfl⟩))
    · cases h
  | b :: c :: r, h =>
    rw [signOf_two] at h
    split at h
    · cases h; exact .inl rfl
    · split at h
      · cases h; exact .inr (.inl rfl)
      · split at h
        · cases h; exact .inr (.inr (.inl rfl))
        · split at h
          · rename_i hb; cases h; exact .inr (.inr (.inr ⟨b, hb, rfl⟩))
          · cases h
theorem one_wf {l : Bs} {kd n : Nat} {s : Bs} {used : Nat} (a : Nat) (h : one l = .tok kd n s used) : Tok.Wf ⟨kd, n, a, s⟩ := by
  cases l with
  | nil => cases h
  | cons b r =>
    rw [one_cons] at h
    split at h
    · rename_i hb
      unfold oneWord at h
      split at h
      · cases h
      · rename_i h20
        have h1 := takeWhile_pos (p := isWordB) (r := r) (letter_word hb)
        obtain ⟨rfl, rfl, rfl, rfl⟩ : (if ((b :: r).takeWhile isWordB).map lower ∈ lexWords then 1 else 2) = kd ∧ 0 = n ∧ ((b :: r).takeWhile isWordB).map lower = s ∧ ((b :: r).takeWhile isWordB).length = used := by injection h with h1 h2 h3 h4; exact ⟨h1, h2, h3, h4⟩
        refine ⟨(by dsimp only; split <;> omega), fun e => ?_, fun e => ?_, (by dsimp only; omega), ?_, fun e => ?_⟩
        · dsimp only at e ⊢
          split at e
          · assumption
          · cases e
        · dsimp only at e ⊢
          have : (((b :: r).takeWhile isWordB).map lower).length = ((b :: r).takeWhile isWordB).length := List.length_map _
          refine ⟨fun e2 => ?_, by omega⟩
          rw [e2, List.length_nil] at this
          omega
        · dsimp only
          rw [List.length_map]
          omega
        · dsimp only at e
          split at e <;> cases e
    · split at h
      · unfold oneNum at h
        split at h
        · cases h
        · cases h
          exact ⟨(by dsimp only; omega), fun e => (by cases e), fun e => (by cases e), (by dsimp only; omega), (by simp), fun e => (by cases e)⟩
      · split at h
        · unfold oneText at h
          cases e : textOf r with
          | none => rw [e] at h; cases h
          | some x =>
            rw [e] at h
            simp only at h
            split at h
            · cases h
            · cases h
              exact ⟨(by dsimp only; omega), fun e => (by cases e), fun e => (by cases e), (by dsimp only; omega), (by dsimp only; omega), fun e => (by cases e)⟩
        · split at h
          · unfold onePar at h
            split at h
            · cases h
            · split at h
              · cases h
              · cases h
                exact ⟨(by dsimp only; omega), fun e => (by cases e), fun e => (by cases e), (by dsimp only; omega), (by simp), fun e => (by cases e)⟩
          · unfold oneSign at h
            cases e : signOf (b :: r) with
            | none => rw [e] at h; cases h
            | some x =>
              rw [e] at h
              cases h
              have hs := signOf_shape e
              refine ⟨(by dsimp only; omega), fun e => (by cases e), fun e => (by cases e), (by dsimp only; omega), ?_, fun _ => hs⟩
              rcases hs with rfl | rfl | rfl | ⟨b, -, rfl⟩ <;> simp
theorem lexL_wf (l : Bs) : ∀ pos cnt L, lexL l pos cnt = .ok L → ∀ t ∈ L, t.Wf := by
  refine lex_ind (P := fun l => ∀ pos cnt L, lexL l pos cnt = .ok L → ∀ t ∈ L, t.Wf) ?_ ?_ ?_ ?_ l
  · intro pos cnt L h t ht
    cases h
    cases ht
  · intro b r hb ih pos cnt L h
    rw [lexL_blank hb] at h
    exact ih _ _ _ h
  · intro b r e rel hb h1 pos cnt L h
    rw [lexL_err hb h1] at h
    cases h
  · intro b r kd n s used hb h1 ih pos cnt L h
    rw [lexL_tok hb h1] at h
    split at h
    · cases h
    · obtain ⟨B, hB, rfl⟩ := push_ok h
      intro t ht
      rcases List.mem_cons.1 ht with rfl | ht
      · exact one_wf _ h1
      · exact ih _ _ _ hB t ht
theorem lexS_ok {s : Bs} {L : List Tok} (h : lexS s = .ok L) : s.length ≤ 2000 ∧ lexL s 0 0 = .ok L := by
  unfold lexS at h
  split at h
  · cases h
  · exact ⟨by omega, h⟩
structure Toks (z : Nat) (L : List Tok) : Prop where
  wf : ∀ t ∈ L, t.Wf
  at_ : ∀ t ∈ L, t.at_ < z
  most : L.length ≤ 400
theorem lexS_toks {s : Bs} {L : List Tok} (h : lexS s = .ok L) : Toks s.length L ∧ s.length ≤ 2000 := by
  obtain ⟨h1, h2⟩ := lexS_ok h
  refine ⟨⟨lexL_wf _ _ _ _ h2, fun t ht => ?_, by have := lexL_most _ _ _ _ (by omega) h2; omega⟩, h1⟩
  obtain ⟨k, b, e, hk, -⟩ := (lexL_places _ _ _ _ h2).1 t ht
  have := (List.getElem?_eq_some_iff.1 hk).1
  omega
theorem Toks.app {z : Nat} {p r : List Tok} (h : Toks z (p ++ r)) : Toks z r := ⟨fun t ht => h.wf t (List.mem_append_right _ ht), fun t ht => h.at_ t (List.mem_append_right _ ht), by have := h.most; rw [List.length_append] at this; omega⟩
theorem Toks.tail {z : Nat} {l : List Tok} (h : Toks z l) : Toks z l.tail := by
  cases l with
  | nil => exact h
  | cons t r => exact Toks.app (p := [t]) h
theorem Toks.of {α : Type} {z : Nat} {f : Rd α} (hf : Keep f) {l r : List Tok} {x : α} (h : Toks z l) (e : f l = .ok x r) : Toks z r := by
  obtain ⟨p, rfl⟩ := hf _ _ _ e
  exact h.app
theorem hAt_le {z : Nat} {l : List Tok} (h : Toks z l) : hAt z l ≤ z := by
  cases l with
  | nil => exact Nat.le_refl _
  | cons t r => exact Nat.le_of_lt (h.at_ t (List.mem_cons_self ..))

/-- Words and signs are told by their text alone. -/
theorem sees_eq (s : Bs) (t : Tok) (r : List Tok) : hSees s (t :: r) = ((t.kd == 1 || t.kd == 6) && t.s == s) := rfl
theorem sees_word {s : Bs} (hs : s ∈ lexWords) {t : Tok} {r : List Tok} (ht : t.Wf) : hSees s (t :: r) = (t.kd == 1 && t.s == s) := by
  rw [sees_eq]
  cases h : t.s == s with
  | false => rw [Bool.and_false, Bool.and_false]
  | true =>
    rw [beq_iff_eq] at h
    by_cases h6 : t.kd = 6
    · exfalso
      have := ht.sign h6
      rw [h] at this
      rcases this with rfl | rfl | rfl | ⟨b, hb, rfl⟩
      · revert hs; decide
      · revert hs; decide
      · revert hs; decide
      · revert hs
        simp [lexWords]
    · rw [show (t.kd == 6) = false from beq_eq_false_iff_ne.2 h6, Bool.or_false]
theorem sees_sign {s : Bs} (hs : s ∉ lexWords) {t : Tok} {r : List Tok} (ht : t.Wf) : hSees s (t :: r) = (t.kd == 6 && t.s == s) := by
  rw [sees_eq]
  cases h : t.s == s with
  | false => rw [Bool.and_false, Bool.and_false]
  | true =>
    rw [beq_iff_eq] at h
    by_cases h1 : t.kd = 1
    · exfalso
      have := ht.word h1
      rw [h] at this
      exact hs this
    · rw [show (t.kd == 1) = false from beq_eq_false_iff_ne.2 h1, Bool.false_or]

/-- An error is one of these two, at a place of the text. -/
def Errs {α : Type} (z : Nat) (f : Rd α) : Prop := ∀ l e a, Toks z l → f l = .err e a → (e = 5 ∨ e = 7) ∧ a ≤ z
theorem need_errs {α : Type} {z : Nat} {s : Bs} {f : Rd α} (h : Errs z f) : Errs z (fun l => need z s l f) := fun l e a hl he => by
  (try dsimp only at he)
  unfold need at he
  split at he
  · exact h _ _ _ hl.tail he
  · cases he; exact ⟨.inr rfl, hAt_le hl⟩
theorem bind_errs {α β : Type} {z : Nat} {f : Rd α} {g : α → Rd β} (hk : Keep f) (h1 : Errs z f) (h2 : ∀ x, Errs z (g x)) : Errs z (fun l => (f l).bind g) := fun l e a hl he => by
  cases h : f l with
  | err e' a' => simp only [h, bind_err] at he; cases he; exact h1 _ _ _ hl h
  | ok x r => simp only [h, bind_ok] at he; exact h2 x _ _ _ (hl.of hk h) he
theorem map_errs {α β : Type} {z : Nat} {f : Rd α} {g : α → β} (h1 : Errs z f) : Errs z (fun l => (f l).map g) := fun l e a hl he => by
  cases h : f l with
  | err e' a' => simp only [h] at he; cases he; exact h1 _ _ _ hl h
  | ok x r => simp only [h] at he; cases he
theorem ok_errs {α : Type} {z : Nat} (x : α) : Errs z (fun l => PR.ok x l) := fun l e a hl he => by cases he
theorem tail_errs {α : Type} {z : Nat} {f : Rd α} (h : Errs z f) : Errs z (fun l => f l.tail) := fun _ _ _ hl he => h _ _ _ hl.tail he
theorem ite_errs {α : Type} {z : Nat} {c : List Tok → Bool} {f g : Rd α} (h1 : Errs z f) (h2 : Errs z g) : Errs z (fun l => if c l = true then f l else g l) := fun l e a hl he => by
  (try dsimp only at he)
  split at he
  · exact h1 _ _ _ hl he
  · exact h2 _ _ _ hl he
theorem long_errs {α : Type} {z : Nat} : Errs (α := α) z (fun l => PR.err 5 (hAt z l)) := fun l e a hl he => by cases he; exact ⟨.inl rfl, hAt_le hl⟩
theorem chainF_errs {z : Nat} {one : Rd Ex} (hk : Keep one) (h1 : Errs z one) (ops : Ops) : ∀ (k : Nat) (e : Ex), Errs z (chainF one ops k e)
  | 0, e, l, er, a, hl, h => by cases h
  | k + 1, e, l, er, a, hl, h => by
    unfold chainF at h
    cases ho : opOf ops l with
    | none => rw [ho] at h; cases h
    | some op =>
      rw [ho] at h
      dsimp only at h
      cases h2 : one l.tail with
      | err e' a' => rw [h2] at h; cases h; exact h1 _ _ _ hl.tail h2
      | ok x r => rw [h2] at h; exact chainF_errs hk h1 ops k _ _ _ _ (hl.tail.of hk h2) h
theorem chain_errs {z : Nat} {one : Rd Ex} (hk : Keep one) (h1 : Errs z one) (ops : Ops) : Errs z (chain one ops) := bind_errs hk h1 fun _ _ _ _ hl h => chainF_errs hk h1 ops _ _ _ _ _ hl h
theorem bTest_errs {z : Nat} {sg : Rd Ex} (hk : Shr sg) (h : Errs z sg) : Errs z (bTest z sg) :=
  have hs : Errs z (bSum sg) := chain_errs (chain_shr hk _).keep (chain_errs hk.keep h _) _
  bind_errs (bSum_shr hk).keep hs fun x => ite_errs (tail_errs (ite_errs (tail_errs (need_errs (ok_errs _))) (need_errs (ok_errs _)))) fun l e a hl he => by
    (try dsimp only at he)
    cases ho : opOf opsCmp l with
    | none => rw [ho] at he; cases he
    | some op => rw [ho] at he; exact tail_errs (map_errs hs) _ _ _ hl he
theorem bCol_errs (z : Nat) (s : Bs) : Errs z (bCol z s) := fun l e a hl he => by
  unfold bCol at he
  split at he
  · have ht := hl.tail
    cases h : l.tail with
    | nil => rw [h] at he; cases he; exact ⟨.inr rfl, Nat.le_refl _⟩
    | cons t r =>
      rw [h] at he ht
      (try dsimp only at he)
      split at he
      · cases he
      · cases he; exact ⟨.inr rfl, Nat.le_of_lt (ht.at_ t (List.mem_cons_self ..))⟩
  · cases he
theorem bAtom_errs {z : Nat} {orr : Rd Ex} (hk : Shr orr) (h : Errs z orr) : Errs z (bAtom z orr) := fun l e a hl he => by
  cases l with
  | nil => cases he; exact ⟨.inr rfl, Nat.le_refl _⟩
  | cons t r =>
    have ht := hl.tail
    simp only [List.tail_cons] at ht
    rw [bAtom] at he
    split at he
    · cases he
    split at he
    · cases he
    split at he
    · cases he
    split at he
    · exact bCol_errs z _ _ _ _ ht he
    split at he
    · cases he
    split at he
    · cases he
    split at he
    · cases he
    split at he
    · exact bind_errs hk.keep h (fun y => need_errs (s := [41]) (ok_errs y)) r e a ht he
    · cases he; exact ⟨.inr rfl, Nat.le_of_lt (hl.at_ t (List.mem_cons_self ..))⟩
structure LevErrs (z : Nat) (L : Lev) : Prop where
  o : Errs z L.o
  n : Errs z L.n
  s : Errs z L.s
theorem lev_errs (z : Nat) : ∀ n, LevErrs z (lev z n)
  | 0 => ⟨long_errs, long_errs, long_errs⟩
  | n + 1 => by
    have h := lev_errs z n
    have k := lev_shr z n
    exact ⟨chain_errs (chain_shr k.n _).keep (chain_errs k.n.keep h.n _) _, ite_errs (tail_errs (map_errs h.n)) (bTest_errs k.s h.s), ite_errs (tail_errs (map_errs h.s)) (bAtom_errs k.o h.o)⟩

theorem listF_errs {α : Type} {z : Nat} {one : Rd α} (hk : Keep one) (h1 : Errs z one) : ∀ (k : Nat) (acc : List α), Errs z (listF z one k acc)
  | 0, acc, l, er, a, hl, h => by cases h
  | k + 1, acc, l, er, a, hl, h => by
    unfold listF at h
    split at h
    · split at h
      · cases h; exact ⟨.inl rfl, hAt_le hl.tail⟩
      · cases h2 : one l.tail with
        | err e' a' => rw [h2] at h; cases h; exact h1 _ _ _ hl.tail h2
        | ok x r => rw [h2] at h; exact listF_errs hk h1 k _ _ _ _ (hl.tail.of hk h2) h
    · cases h
theorem listP_errs {α : Type} {z : Nat} {one : Rd α} (hk : Shr one) (h1 : Errs z one) : Errs z (listP z one) := bind_errs hk.keep h1 fun _ _ _ _ hl h => listF_errs hk.keep h1 _ _ _ _ _ hl h
theorem listF_most {α : Type} {z : Nat} {one : Rd α} : ∀ (k : Nat) (acc : List α) (l : List Tok) (x : List α) (r : List Tok), 1 ≤ acc.length → acc.length ≤ 8 → listF z one k acc l = .ok x r → 1 ≤ x.length ∧ x.length ≤ 8
  | 0, acc, l, x, r, h1, h8, h => by cases h; exact ⟨h1, h8⟩
  | k + 1, acc, l, x, r, h1, h8, h => by
    unfold listF at h
    split at h
    · split at h
      · cases h
      · obtain ⟨y, r1, e1, e2⟩ := bind_eq_ok h
        exact listF_most k _ _ _ _ (by simp) (by simp; omega) e2
    · cases h; exact ⟨h1, h8⟩
theorem listP_most {α : Type} {z : Nat} {one : Rd α} {l : List Tok} {x : List α} {r : List Tok} (h : listP z one l = .ok x r) : 1 ≤ x.length ∧ x.length ≤ 8 := by
  obtain ⟨y, r1, e1, e2⟩ := bind_eq_ok h
  exact listF_most _ _ _ _ _ (by simp) (by simp) e2

theorem bItem_errs {z : Nat} {orr : Rd Ex} (hk : Shr orr) (h : Errs z orr) : Errs z (bItem z orr) := fun l e a hl he => by
  unfold bItem at he
  cases ho : opOf opsAgg l with
  | none => rw [ho] at he; exact map_errs h _ _ _ hl he
  | some g =>
    rw [ho] at he
    refine need_errs (z := z) (s := [40]) (f := fun r => if g = 2 ∧ hSees [42] r = true then need z [41] r.tail (fun r2 => PR.ok (It.mk 1 exZ) r2) else (orr r).bind fun x r2 => need z [41] r2 (fun r3 => PR.ok (It.mk g x) r3)) (fun r e a hr he => ?_) _ _ _ hl.tail he
    (try dsimp only at he)
    split at he
    · exact tail_errs (need_errs (s := [41]) (ok_errs (It.mk 1 exZ))) _ _ _ hr he
    · exact bind_errs hk.keep h (fun y => need_errs (s := [41]) (ok_errs (It.mk g y))) _ _ _ hr he
theorem bKey_errs (z : Nat) : Errs z (bKey z) := fun l e a hl he => by
  cases l with
  | nil => cases he; exact ⟨.inr rfl, Nat.le_refl _⟩
  | cons t r =>
    rw [bKey] at he
    split at he
    · split at he <;> cases he
    · cases he; exact ⟨.inr rfl, Nat.le_of_lt (hl.at_ t (List.mem_cons_self ..))⟩
theorem bTable_errs (z : Nat) (kind : Int) (ahead most : Nat) : Errs z (bTable z kind ahead most) := fun l e a hl he => by
  cases l with
  | nil => cases he; exact ⟨.inr rfl, Nat.le_refl _⟩
  | cons t r =>
    have := Nat.le_of_lt (hl.at_ t (List.mem_cons_self ..))
    rw [bTable] at he
    split at he
    · split at he
      · cases he; exact ⟨.inl rfl, this⟩
      · cases r with
        | nil => rw [bAlias] at he; cases he
        | cons u r2 => rw [bAlias] at he; split at he <;> cases he
    · cases he; exact ⟨.inr rfl, this⟩
theorem bJoin_errs {z : Nat} {orr : Rd Ex} (h : Errs z orr) (kind : Int) (ahead most : Nat) : Errs z (bJoin z orr kind ahead most) :=
  need_errs (bind_errs (bTable_shr z kind ahead most).keep (bTable_errs z kind ahead most) fun _ => need_errs (map_errs h))
theorem bInner_errs {z : Nat} {orr : Rd Ex} (h : Errs z orr) (ahead : Nat) : Errs z (bInner z orr ahead) := ite_errs (tail_errs (bTable_errs z 0 ahead 4)) (bJoin_errs h 0 ahead 4)
theorem bOuter_errs {z : Nat} {orr : Rd Ex} (h : Errs z orr) (ahead : Nat) : Errs z (bOuter z orr ahead) := ite_errs (tail_errs (bJoin_errs h 1 ahead 2)) (need_errs (bJoin_errs h 2 ahead 2))
theorem moreF_errs {z : Nat} {a b : Bs} {one : Nat → Rd Fr} (hk : ∀ n, Keep (one n)) (h1 : ∀ n, Errs z (one n)) : ∀ (k : Nat) (acc : List Fr), Errs z (moreF a b one k acc)
  | 0, acc, l, er, p, hl, h => by cases h
  | k + 1, acc, l, er, p, hl, h => by
    unfold moreF at h
    split at h
    · cases h2 : one acc.length l with
      | err e' a' => rw [h2] at h; cases h; exact h1 _ _ _ _ hl h2
      | ok x r => rw [h2] at h; exact moreF_errs hk h1 k _ _ _ _ (hl.of (hk _) h2) h
    · cases h
theorem moreW_keep {a b : Bs} {one : Nat → Rd Fr} {acc : List Fr} (h1 : ∀ n, Keep (one n)) : Keep (moreW a b one acc) := fun _ _ _ e => moreF_keep h1 _ _ _ _ _ e
theorem bTables_errs {z : Nat} {orr : Rd Ex} (hk : Shr orr) (h : Errs z orr) : Errs z (bTables z orr) :=
  bind_errs (bTable_shr z 0 0 4).keep (bTable_errs z 0 0 4) fun _ => bind_errs (moreW_keep fun n => (bInner_shr z hk n).keep) (fun _ _ _ hl he => moreF_errs (fun n => (bInner_shr z hk n).keep) (fun n => bInner_errs h n) _ _ _ _ _ hl he) fun _ => map_errs fun _ _ _ hl he => moreF_errs (fun n => (bOuter_shr z hk n).keep) (fun n => bOuter_errs h n) _ _ _ _ _ hl he
theorem bWhere_errs {z : Nat} {orr : Rd Ex} (h : Errs z orr) : Errs z (bWhere orr) := ite_errs (tail_errs (map_errs h)) (ok_errs _)
theorem bGroup_errs {z : Nat} {orr : Rd Ex} (hk : Shr orr) (h : Errs z orr) : Errs z (bGroup z orr) := ite_errs (tail_errs (need_errs (listP_errs hk h))) (ok_errs _)
theorem Toks.dist {z : Nat} {l : List Tok} (h : Toks z l) : Toks z (bDist l).2 := by
  obtain ⟨p, hp⟩ := bDist_app l
  rw [hp] at h
  exact h.app
theorem bSel2_errs {z : Nat} {orr : Rd Ex} (hk : Shr orr) (h : Errs z orr) : Errs z (bSel2 z orr) := fun l e a hl he =>
  (bind_errs (listP_shr (bItem_shr z hk)).keep (listP_errs (bItem_shr z hk) (bItem_errs hk h)) fun i => need_errs (s := kwFrom) (bind_errs (bTables_shr z hk).keep (bTables_errs hk h) fun f => bind_errs (bWhere_keep hk) (bWhere_errs h) fun w => map_errs (g := fun g => Sel.mk (bDist l).1 i f w g) (bGroup_errs hk h))) (bDist l).2 e a hl.dist he
theorem bSel_errs {z : Nat} {orr : Rd Ex} (hk : Shr orr) (h : Errs z orr) (ahead : Nat) : Errs z (bSel z orr ahead) := fun l e a hl he => by
  unfold bSel at he
  by_cases ha : ahead = 4
  · unfold need at he
    simp only [if_pos ha] at he
    split at he
    · cases he; exact ⟨.inl rfl, hAt_le hl⟩
    · cases he; exact ⟨.inr rfl, hAt_le hl⟩
  · simp only [if_neg ha] at he
    exact need_errs (bSel2_errs hk h) _ _ _ hl he
theorem selsF_errs {z : Nat} {orr : Rd Ex} (hk : Shr orr) (h1 : Errs z orr) : ∀ (k : Nat) (acc : List Sel), Errs z (selsF z orr k acc)
  | 0, acc, l, er, p, hl, h => by cases h
  | k + 1, acc, l, er, p, hl, h => by
    unfold selsF at h
    split at h
    · exact tail_errs (need_errs (bind_errs (bSel_shr z hk _).keep (bSel_errs hk h1 _) fun x => selsF_errs hk h1 k _)) _ _ _ hl h
    · cases h
theorem bOrder_keep (z : Nat) : Keep (bOrder z) := ite_keep (tail_keep (need_shr (listP_shr (bKey_shr z)).keep).keep) (ok_keep _)
theorem bOrder_errs (z : Nat) : Errs z (bOrder z) := ite_errs (tail_errs (need_errs (listP_errs (bKey_shr z) (bKey_errs z)))) (ok_errs _)
theorem bEnd_errs {α : Type} {z : Nat} (x : α) : Errs z (bEnd x) := fun l e a hl he => by
  cases l with
  | nil => cases he
  | cons t r => cases he; exact ⟨.inr rfl, Nat.le_of_lt (hl.at_ t (List.mem_cons_self ..))⟩
theorem selsW_keep {z : Nat} {orr : Rd Ex} (hk : Shr orr) {acc : List Sel} : Keep (selsW z orr acc) := fun _ _ _ e => selsF_keep hk _ _ _ _ _ e
theorem bQuery_errs {z : Nat} {orr : Rd Ex} (hk : Shr orr) (h : Errs z orr) : Errs z (bQuery z orr) :=
  bind_errs (bSel_shr z hk 0).keep (bSel_errs hk h 0) fun _ => bind_errs (selsW_keep hk) (fun _ _ _ hl he => selsF_errs hk h _ _ _ _ _ hl he) fun _ => bind_errs (bOrder_keep z) (bOrder_errs z) fun _ => bEnd_errs _
theorem parseS_err {s : Bs} {e a : Nat} (h : parseS s = .err e a) : (e = 5 ∨ e = 6 ∨ e = 7) ∧ a ≤ s.length := by
  unfold parseS at h
  cases hl : lexS s with
  | err e' a' =>
    rw [hl] at h
    cases h
    unfold lexS at hl
    split at hl
    · cases hl; exact ⟨.inl rfl, Nat.zero_le _⟩
    · obtain ⟨h1, -, h3⟩ := lexL_errs _ _ _ _ _ hl
      exact ⟨by rcases h1 with h | h <;> simp [h], by omega⟩
  | ok L =>
    rw [hl] at h
    dsimp only at h
    cases hq : bQuery s.length (lev s.length 60).o L with
    | err e' a' =>
      rw [hq] at h
      cases h
      obtain ⟨h1, h2⟩ := bQuery_errs (lev_shr _ 60).o (lev_errs _ 60).o _ _ _ (lexS_toks hl).1 hq
      exact ⟨by rcases h1 with h | h <;> simp [h], h2⟩
    | ok q r => rw [hq] at h; cases h

/-- Tables as they may stand: each that is not joined from outside ahead of all that are. -/
def okFrom (f : Fr) : Prop := f.table ≠ [] ∧ f.alias ≠ [] ∧ (f.kind = 0 ∨ (f.kind = 1 ∨ f.kind = 2) ∧ f.on.length = 1)
theorem bTable_ok {z : Nat} {kind : Int} {ahead most : Nat} {l r : List Tok} {f : Fr} (hl : Toks z l) (h : bTable z kind ahead most l = .ok f r) : f.table ≠ [] ∧ f.alias ≠ [] ∧ f.kind = kind ∧ ahead ≠ most := by
  cases l with
  | nil => cases h
  | cons t l' =>
    rw [bTable] at h
    split at h
    · rename_i h2
      have n1 := ((hl.wf t (List.mem_cons_self ..)).name h2).1
      split at h
      · cases h
      · rename_i h3
        cases l' with
        | nil => rw [bAlias] at h; cases h; exact ⟨n1, n1, rfl, h3⟩
        | cons u r2 =>
          rw [bAlias] at h
          split at h
          · rename_i h4
            cases h
            exact ⟨n1, ((hl.wf u (by simp)).name h4).1, rfl, h3⟩
          · cases h; exact ⟨n1, n1, rfl, h3⟩
    · cases h
theorem bJoin_ok {z : Nat} {orr : Rd Ex} {kind : Int} {ahead most : Nat} {l r : List Tok} {f : Fr} (hl : Toks z l) (h : bJoin z orr kind ahead most l = .ok f r) : f.table ≠ [] ∧ f.alias ≠ [] ∧ f.kind = kind ∧ ahead ≠ most ∧ f.on.length = 1 := by
  obtain ⟨t, l', rfl, -, h2⟩ := need_ok h
  obtain ⟨y, r1, e1, e2⟩ := bind_eq_ok h2
  obtain ⟨t3, l3, rfl, -, e3⟩ := need_ok e2
  obtain ⟨x, e4, rfl⟩ := map_eq_ok e3
  obtain ⟨a1, a2, a3, a4⟩ := bTable_ok (Toks.tail hl) e1
  exact ⟨a1, a2, a3, a4, rfl⟩
theorem bInner_ok {z : Nat} {orr : Rd Ex} {ahead : Nat} {l r : List Tok} {f : Fr} (hl : Toks z l) (h : bInner z orr ahead l = .ok f r) : f.table ≠ [] ∧ f.alias ≠ [] ∧ f.kind = 0 ∧ ahead ≠ 4 := by
  unfold bInner at h
  split at h
  · exact bTable_ok hl.tail h
  · obtain ⟨a1, a2, a3, a4, -⟩ := bJoin_ok hl h
    exact ⟨a1, a2, a3, a4⟩
theorem bOuter_ok {z : Nat} {orr : Rd Ex} {ahead : Nat} {l r : List Tok} {f : Fr} (hl : Toks z l) (h : bOuter z orr ahead l = .ok f r) : f.table ≠ [] ∧ f.alias ≠ [] ∧ (f.kind = 1 ∨ f.kind = 2) ∧ ahead ≠ 2 ∧ f.on.length = 1 := by
  unfold bOuter at h
  split at h
  · obtain ⟨a1, a2, a3, a4, a5⟩ := bJoin_ok hl.tail h
    exact ⟨a1, a2, .inl a3, a4, a5⟩
  · obtain ⟨t, l', rfl, -, h2⟩ := need_ok h
    obtain ⟨a1, a2, a3, a4, a5⟩ := bJoin_ok (Toks.tail hl) h2
    exact ⟨a1, a2, .inr a3, a4, a5⟩
theorem moreF_ok {z : Nat} {a b : Bs} {one : Nat → Rd Fr} {P : Fr → Prop} {most : Nat} (hk : ∀ n, Keep (one n)) (h1 : ∀ n l f r, Toks z l → one n l = .ok f r → P f ∧ n ≠ most) : ∀ (k : Nat) (acc : List Fr) (l : List Tok) (x : List Fr) (r : List Tok), Toks z l → (∀ f ∈ acc, P f) → acc.length ≤ most → moreF a b one k acc l = .ok x r → (∀ f ∈ x, P f) ∧ x.length ≤ most ∧ acc.length ≤ x.length ∧ ∃ y, x = acc ++ y
  | 0, acc, l, x, r, hl, hP, hm, h => by cases h; exact ⟨hP, hm, Nat.le_refl _, [], by simp⟩
  | k + 1, acc, l, x, r, hl, hP, hm, h => by
    unfold moreF at h
    split at h
    · obtain ⟨y, r1, e1, e2⟩ := bind_eq_ok h
      obtain ⟨p1, p2⟩ := h1 _ _ _ _ hl e1
      obtain ⟨q1, q2, q3, y2, q4⟩ := moreF_ok hk h1 k _ _ _ _ (hl.of (hk _) e1) (fun f hf => by
        rcases List.mem_append.1 hf with hf | hf
        · exact hP f hf
        · rw [List.mem_singleton] at hf
          rw [hf]
          exact p1) (by rw [List.length_append, List.length_singleton]; omega) e2
      rw [List.length_append, List.length_singleton] at q3
      exact ⟨q1, q2, by omega, [y] ++ y2, by rw [q4]; simp⟩
    · cases h; exact ⟨hP, hm, Nat.le_refl _, [], by simp⟩
/-- The tables of a select. -/
structure okFroms (l : List Fr) : Prop where
  parts : ∃ f c o, l = f :: c ++ o ∧ f.kind = 0 ∧ (∀ x ∈ c, x.kind = 0) ∧ (∀ x ∈ o, (x.kind = 1 ∨ x.kind = 2) ∧ x.on.length = 1) ∧ c.length ≤ 3 ∧ o.length ≤ 2
  names : ∀ x ∈ l, x.table ≠ [] ∧ x.alias ≠ []
theorem bTables_ok {z : Nat} {orr : Rd Ex} (hk : Shr orr) {l r : List Tok} {x : List Fr} (hl : Toks z l) (h : bTables z orr l = .ok x r) : okFroms x := by
  obtain ⟨f, r1, e1, e2⟩ := bind_eq_ok h
  obtain ⟨c, r2, e3, e4⟩ := bind_eq_ok e2
  obtain ⟨o, e5, rfl⟩ := map_eq_ok e4
  have t1 := hl.of (bTable_shr z 0 0 4).keep e1
  have t2 := t1.of (moreW_keep fun n => (bInner_shr z hk n).keep) e3
  obtain ⟨a1, a2, a3, -⟩ := bTable_ok hl e1
  obtain ⟨b1, b2, -, y, b4⟩ := moreF_ok (P := fun f => f.table ≠ [] ∧ f.alias ≠ [] ∧ f.kind = 0) (most := 4) (fun n => (bInner_shr z hk n).keep) (fun n l f r hl h => by obtain ⟨c1, c2, c3, c4⟩ := bInner_ok hl h; exact ⟨⟨c1, c2, c3⟩, c4⟩) _ _ _ _ _ t1 (fun g hg => by rw [List.mem_singleton] at hg; rw [hg]; exact ⟨a1, a2, a3⟩) (by simp) e3
  obtain ⟨d1, d2, -, -⟩ := moreF_ok (P := fun f => f.table ≠ [] ∧ f.alias ≠ [] ∧ (f.kind = 1 ∨ f.kind = 2) ∧ f.on.length = 1) (most := 2) (fun n => (bOuter_shr z hk n).keep) (fun n l f r hl h => by obtain ⟨c1, c2, c3, c4, c5⟩ := bOuter_ok hl h; exact ⟨⟨c1, c2, c3, c5⟩, c4⟩) _ _ _ _ _ t2 (fun g hg => by cases hg) (by simp) e5
  subst b4
  refine ⟨⟨f, y, o, by simp, a3, fun x hx => (b1 x (by simp [hx])).2.2, fun x hx => (d1 x hx).2.2, by simp at b2; omega, d2⟩, fun x hx => ?_⟩
  rcases List.mem_append.1 hx with hx | hx
  · exact ⟨(b1 x hx).1, (b1 x hx).2.1⟩
  · exact ⟨(d1 x hx).1, (d1 x hx).2.1⟩
structure okSel (s : Sel) : Prop where
  items : 1 ≤ s.items.length ∧ s.items.length ≤ 8
  froms : okFroms s.froms
  where_ : s.where_.length ≤ 1
  group : s.group.length ≤ 8
theorem bSel_ok {z : Nat} {orr : Rd Ex} (hk : Shr orr) {ahead : Nat} {l r : List Tok} {x : Sel} (hl : Toks z l) (h : bSel z orr ahead l = .ok x r) : okSel x ∧ ahead ≠ 4 := by
  obtain ⟨t, l', rfl, -, h2⟩ := need_ok h
  split at h2
  · cases h2
  · rename_i h4
    refine ⟨?_, h4⟩
    have tl := (Toks.tail hl).dist
    simp only [List.tail_cons] at tl
    obtain ⟨i, r1, e1, e2⟩ := bind_eq_ok h2
    have t1 := tl.of (listP_shr (bItem_shr z hk)).keep e1
    obtain ⟨t3, l3, rfl, -, e3⟩ := need_ok e2
    obtain ⟨f, r2, e4, e5⟩ := bind_eq_ok e3
    obtain ⟨w, r3, e6, e7⟩ := bind_eq_ok e5
    obtain ⟨g, e8, rfl⟩ := map_eq_ok e7
    refine ⟨listP_most e1, bTables_ok hk (Toks.tail t1) e4, ?_, ?_⟩
    · unfold bWhere at e6
      split at e6
      · obtain ⟨y, -, rfl⟩ := map_eq_ok e6; simp
      · cases e6; simp
    · unfold bGroup at e8
      split at e8
      · obtain ⟨t9, l9, -, -, e9⟩ := need_ok e8
        exact (listP_most e9).2
      · cases e8; simp
theorem selsF_ok {z : Nat} {orr : Rd Ex} (hk : Shr orr) : ∀ (k : Nat) (acc : List Sel) (l : List Tok) (x : List Sel) (r : List Tok), Toks z l → (∀ s ∈ acc, okSel s) → 1 ≤ acc.length → acc.length ≤ 4 → selsF z orr k acc l = .ok x r → (∀ s ∈ x, okSel s) ∧ 1 ≤ x.length ∧ x.length ≤ 4
  | 0, acc, l, x, r, hl, hP, h1, hm, h => by cases h; exact ⟨hP, h1, hm⟩
  | k + 1, acc, l, x, r, hl, hP, h1, hm, h => by
    unfold selsF at h
    split at h
    · obtain ⟨t2, l2, e2, -, h2⟩ := need_ok h
      obtain ⟨y, r1, e1, e3⟩ := bind_eq_ok h2
      have tl := hl.tail
      rw [e2] at tl
      obtain ⟨p1, p2⟩ := bSel_ok hk (Toks.tail tl) e1
      refine selsF_ok hk k _ _ _ _ ((Toks.tail tl).of (bSel_shr z hk _).keep e1) (fun s hs => ?_) (by simp) (by simp; omega) e3
      rcases List.mem_append.1 hs with hs | hs
      · exact hP s hs
      · rw [List.mem_singleton] at hs
        rw [hs]
        exact p1
    · cases h; exact ⟨hP, h1, hm⟩
structure okQu (q : Qu) : Prop where
  sels : 1 ≤ q.sels.length ∧ q.sels.length ≤ 4
  each : ∀ s ∈ q.sels, okSel s
  order : q.order.length ≤ 8
theorem bQuery_ok {z : Nat} {orr : Rd Ex} (hk : Shr orr) {l r : List Tok} {q : Qu} (hl : Toks z l) (h : bQuery z orr l = .ok q r) : okQu q ∧ r = [] := by
  obtain ⟨s, r1, e1, e2⟩ := bind_eq_ok h
  obtain ⟨ss, r2, e3, e4⟩ := bind_eq_ok e2
  obtain ⟨o, r3, e5, e6⟩ := bind_eq_ok e4
  cases r3 with
  | cons t r3 => cases e6
  | nil =>
    cases e6
    obtain ⟨p1, -⟩ := bSel_ok hk hl e1
    obtain ⟨q1, q2, q3⟩ := selsF_ok hk _ _ _ _ _ (hl.of (bSel_shr z hk 0).keep e1) (fun x hx => by rw [List.mem_singleton] at hx; rw [hx]; exact p1) (by simp) (by simp) e3
    refine ⟨⟨⟨q2, q3⟩, q1, ?_⟩, rfl⟩
    unfold bOrder at e5
    split at e5
    · obtain ⟨t9, l9, -, -, e9⟩ := need_ok e5
      exact (listP_most e9).2
    · cases e5; simp
theorem parseS_ok {s : Bs} {q : Qu} (h : parseS s = .ok q) : okQu q ∧ s.length ≤ 2000 := by
  unfold parseS at h
  cases hl : lexS s with
  | err e' a' => rw [hl] at h; cases h
  | ok L =>
    rw [hl] at h
    dsimp only at h
    cases hq : bQuery s.length (lev s.length 60).o L with
    | err e' a' => rw [hq] at h; cases h
    | ok q r =>
      rw [hq] at h
      cases h
      exact ⟨(bQuery_ok (lev_shr _ 60).o (lexS_toks hl).1 hq).1, (lexS_toks hl).2⟩

end Go.Proofs.YtgmmbfcjjgehoaaGreatDoor

namespace Go.Proofs.YtgmmbfcjjgehoaaGreatDoor

def stp (t : Tok) : Nat × Nat × Bs := (t.kd, t.n, t.s)
/-- l' is l, elsewhere, with m behind it. -/
def Ap (m l l' : List Tok) : Prop := l'.map stp = (l ++ m).map stp
theorem stp_inj {t t' : Tok} (h : stp t = stp t') : t.kd = t'.kd ∧ t.n = t'.n ∧ t.s = t'.s := by
  simp only [stp, Prod.mk.injEq] at h
  exact h
theorem sees_stp {t t' : Tok} (h : stp t = stp t') (s : Bs) (r r' : List Tok) : hSees s (t :: r) = hSees s (t' :: r') := by
  obtain ⟨h1, -, h3⟩ := stp_inj h
  rw [sees_eq, sees_eq, h1, h3]
theorem map_cons_inv {t : Tok} {r l' : List Tok} (h : l'.map stp = (t :: r).map stp) : ∃ t' r', l' = t' :: r' ∧ stp t' = stp t ∧ r'.map stp = r.map stp := by
  cases l' with
  | nil => cases h
  | cons t' r' =>
    simp only [List.map_cons, List.cons.injEq] at h
    exact ⟨t', r', rfl, h.1, h.2⟩
theorem Ap.cons {m : List Tok} {t : Tok} {r l' : List Tok} (h : Ap m (t :: r) l') : ∃ t' r', l' = t' :: r' ∧ stp t' = stp t ∧ Ap m r r' := map_cons_inv h
theorem sees_map {l l' : List Tok} (h : l'.map stp = l.map stp) (s : Bs) : hSees s l' = hSees s l := by
  cases l with
  | nil =>
    cases l' with
    | nil => rfl
    | cons => cases h
  | cons t r =>
    obtain ⟨t', r', rfl, h1, -⟩ := map_cons_inv h
    exact sees_stp h1 s _ _
theorem sees_ap {m l l' : List Tok} (h : Ap m l l') {s : Bs} (hs : hSees s l = true) : hSees s l' = true := by
  obtain ⟨t, r, rfl, -, -⟩ := sees_cons hs
  obtain ⟨t', r', rfl, h1, -⟩ := h.cons
  rw [sees_stp h1 s r' r]
  exact hs

/-- The words and signs with which a reader may go on. -/
def contW : List Bs := [kwOr, kwAnd, [43], [45], [42], [47], [61], [60, 62], [60], [60, 61], [62], [62, 61], kwIs, [46], [44], kwJoin, kwLeft, kwSemi, kwWhere, kwGroup, kwDesc]
/-- Nobody goes on with these. -/
structure Stopper (m : List Tok) : Prop where
  sees : ∀ s ∈ contW, hSees s m = false
  kd : ∀ t r, m = t :: r → t.kd ≠ 2
theorem stopper_nil : Stopper [] := ⟨fun _ _ => rfl, fun _ _ h => by cases h⟩
theorem stopper_of {t : Tok} {r : List Tok} (hk : t.kd ≠ 2) (hs : t.s ∉ contW) : Stopper (t :: r) := by
  refine ⟨fun s h => ?_, fun t' r' h => by cases h; exact hk⟩
  rw [sees_eq]
  have : (t.s == s) = false := by
    rw [beq_eq_false_iff_ne]
    intro e
    rw [e] at hs
    exact hs h
  rw [this, Bool.and_false]
theorem sees_cont {m l l' : List Tok} (hm : Stopper m) (h : Ap m l l') {s : Bs} (hs : s ∈ contW) : hSees s l' = hSees s l := by
  cases l with
  | nil =>
    rw [sees_map (l := m) (by simpa [Ap] using h), hm.sees s hs]
    rfl
  | cons t r =>
    obtain ⟨t', r', rfl, h1, -⟩ := h.cons
    exact sees_stp h1 s _ _
theorem sees_some {m l l' : List Tok} (h : Ap m l l') (hl : l ≠ []) (s : Bs) : hSees s l' = hSees s l := by
  cases l with
  | nil => exact absurd rfl hl
  | cons t r =>
    obtain ⟨t', r', rfl, h1, -⟩ := h.cons
    exact sees_stp h1 s _ _
theorem Ap.tail {m l l' : List Tok} (h : Ap m l l') (hl : l ≠ []) : Ap m l.tail l'.tail := by
  cases l with
  | nil => exact absurd rfl hl
  | cons t r =>
    obtain ⟨t', r', rfl, -, h2⟩ := h.cons
    exact h2
theorem sees_ne {s : Bs} {l : List Tok} (h : hSees s l = true) : l ≠ [] := by
  rintro rfl
  cases h
theorem opOf_cont {m l l' : List Tok} (hm : Stopper m) (h : Ap m l l') : ∀ {ops : Ops}, (∀ p ∈ ops, p.1 ∈ contW) → opOf ops l' = opOf ops l
  | [], _ => rfl
  | (s, op) :: r, hs => by
    unfold opOf
    rw [sees_cont hm h (hs (s, op) (List.mem_cons_self ..)), opOf_cont hm h fun p hp => hs p (List.mem_cons_of_mem _ hp)]
theorem opOf_some {m l l' : List Tok} (h : Ap m l l') (hl : l ≠ []) : ∀ (ops : Ops), opOf ops l' = opOf ops l
  | [] => rfl
  | (s, op) :: r => by
    unfold opOf
    rw [sees_some h hl, opOf_some h hl r]

def Ext {α : Type} (m : List Tok) (f f' : Rd α) : Prop := ∀ l l' x r, Ap m l l' → f l = .ok x r → ∃ r', f' l' = .ok x r' ∧ Ap m r r'
theorem ext_ok {α : Type} (m : List Tok) (x : α) : Ext m (fun l => PR.ok x l) (fun l => PR.ok x l) := fun l l' y r h e => by cases e; exact ⟨l', rfl, h⟩
theorem ext_bind {α β : Type} {m : List Tok} {f f' : Rd α} {g g' : α → Rd β} (h1 : Ext m f f') (h2 : ∀ x, Ext m (g x) (g' x)) : Ext m (fun l => (f l).bind g) (fun l => (f' l).bind g') := fun l l' x r h e => by
  obtain ⟨y, r1, e1, e2⟩ := bind_eq_ok e
  obtain ⟨r1', k1, k2⟩ := h1 _ _ _ _ h e1
  obtain ⟨r', k3, k4⟩ := h2 y _ _ _ _ k2 e2
  exact ⟨r', by dsimp only; rw [k1]; exact k3, k4⟩
theorem ext_map {α β : Type} {m : List Tok} {f f' : Rd α} {g : α → β} (h1 : Ext m f f') : Ext m (fun l => (f l).map g) (fun l => (f' l).map g) := fun l l' x r h e => by
  obtain ⟨y, e1, rfl⟩ := map_eq_ok e
  obtain ⟨r1', k1, k2⟩ := h1 _ _ _ _ h e1
  exact ⟨r1', by dsimp only; rw [k1]; rfl, k2⟩
theorem ext_need {α : Type} {m : List Tok} {z z' : Nat} {s : Bs} {f f' : Rd α} (h1 : Ext m f f') : Ext m (fun l => need z s l f) (fun l => need z' s l f') := fun l l' x r h e => by
  obtain ⟨t, r0, rfl, hs, e1⟩ := need_ok e
  have hs' := sees_ap h hs
  obtain ⟨t', r0', rfl, -, h2⟩ := h.cons
  obtain ⟨r', k1, k2⟩ := h1 _ _ _ _ h2 e1
  exact ⟨r', by dsimp only; unfold need; rw [if_pos hs']; exact k1, k2⟩
/-- A word with which one may go on; or not. -/
theorem ext_may {α : Type} {m : List Tok} (hm : Stopper m) {s : Bs} (hs : s ∈ contW) {f f' g g' : Rd α} (h1 : Ext m f f') (h2 : Ext m g g') : Ext m (fun l => if hSees s l = true then f l.tail else g l) (fun l => if hSees s l = true then f' l.tail else g' l) := fun l l' x r h e => by
  dsimp only at e ⊢
  rw [sees_cont hm h hs]
  split at e
  · rename_i hb
    rw [if_pos hb]
    exact h1 _ _ _ _ (h.tail (sees_ne hb)) e
  · rename_i hb
    rw [if_neg hb]
    exact h2 _ _ _ _ h e
/-- A word at the beginning of something that has one. -/
theorem ext_must {α : Type} {m : List Tok} {s : Bs} {f f' g g' : Rd α} (hk : Shr g) (h1 : Ext m f f') (h2 : Ext m g g') : Ext m (fun l => if hSees s l = true then f l.tail else g l) (fun l => if hSees s l = true then f' l.tail else g' l) := fun l l' x r h e => by
  dsimp only at e ⊢
  have hl : l ≠ [] := by
    rintro rfl
    obtain ⟨p, hp, hn⟩ := hk _ _ _ (show g [] = _ from e)
    simp at hp
    exact hn hp.1
  rw [sees_some h hl]
  split at e
  · rename_i hb
    rw [if_pos hb]
    exact h1 _ _ _ _ (h.tail hl) e
  · rename_i hb
    rw [if_neg hb]
    exact h2 _ _ _ _ h e
theorem ext_chainF {m : List Tok} (hm : Stopper m) {one one' : Rd Ex} (hk : Keep one) (hk' : Keep one') (h1 : Ext m one one') {ops : Ops} (ho : ∀ p ∈ ops, p.1 ∈ contW) : ∀ (k : Nat) (e : Ex) (l l' : List Tok) (x : Ex) (r : List Tok), l.length ≤ k → Ap m l l' → chainF one ops k e l = .ok x r → ∃ r', chainW one' ops e l' = .ok x r' ∧ Ap m r r'
  | 0, e, l, l', x, r, hl, h, he => by
    obtain rfl : l = [] := List.length_eq_zero_iff.1 (by omega)
    cases he
    exact ⟨l', chainW_none (by rw [opOf_cont hm h ho, opOf_nil]), h⟩
  | k + 1, e, l, l', x, r, hl, h, he => by
    unfold chainF at he
    have h3 := opOf_cont hm h ho
    cases ho2 : opOf ops l with
    | none =>
      rw [ho2] at he h3
      cases he
      exact ⟨l', chainW_none h3, h⟩
    | some op =>
      rw [ho2] at he h3
      obtain ⟨t, l2, rfl⟩ := opOf_cons ho2
      obtain ⟨y, r1, e1, e2⟩ := bind_eq_ok he
      obtain ⟨r1', k1, k2⟩ := h1 _ _ _ _ (h.tail (by simp)) e1
      have := hk.len e1
      simp only [List.tail_cons, List.length_cons] at this hl
      obtain ⟨r', k3, k4⟩ := ext_chainF hm hk hk' h1 ho k _ _ _ _ _ (by omega) k2 e2
      exact ⟨r', by rw [chainW_some hk' h3 k1]; exact k3, k4⟩
theorem ext_chain {m : List Tok} (hm : Stopper m) {one one' : Rd Ex} (hk : Keep one) (hk' : Keep one') (h1 : Ext m one one') {ops : Ops} (ho : ∀ p ∈ ops, p.1 ∈ contW) : Ext m (chain one ops) (chain one' ops) := ext_bind h1 fun _ _ _ _ _ h e => ext_chainF hm hk hk' h1 ho _ _ _ _ _ _ (Nat.le_refl _) h e
theorem ops_or : ∀ p ∈ opsOr, p.1 ∈ contW := by decide
theorem ops_and : ∀ p ∈ opsAnd, p.1 ∈ contW := by decide
theorem ops_sum : ∀ p ∈ opsSum, p.1 ∈ contW := by decide
theorem ops_prod : ∀ p ∈ opsProd, p.1 ∈ contW := by decide
theorem ops_cmp : ∀ p ∈ opsCmp, p.1 ∈ contW := by decide
theorem ext_sum {m : List Tok} (hm : Stopper m) {sg sg' : Rd Ex} (hk : Shr sg) (hk' : Shr sg') (h1 : Ext m sg sg') : Ext m (bSum sg) (bSum sg') :=
  ext_chain hm (chain_shr hk _).keep (chain_shr hk' _).keep (ext_chain hm hk.keep hk'.keep h1 ops_prod) ops_sum
theorem ext_test {m : List Tok} (hm : Stopper m) (z z' : Nat) {sg sg' : Rd Ex} (hk : Shr sg) (hk' : Shr sg') (h1 : Ext m sg sg') : Ext m (bTest z sg) (bTest z' sg') :=
  ext_bind (ext_sum hm hk hk' h1) fun x => ext_may hm (by decide) (ext_must (need_shr (ok_keep _)) (ext_need (ext_ok m _)) (ext_need (ext_ok m _))) fun l l' y r h e => by
    (try dsimp only at e ⊢)
    have h3 := opOf_cont hm h ops_cmp
    cases ho : opOf opsCmp l with
    | none => rw [ho] at e h3; cases e; exact ⟨l', by rw [h3], h⟩
    | some op =>
      rw [ho] at e h3
      obtain ⟨t, l2, rfl⟩ := opOf_cons ho
      obtain ⟨r', k1, k2⟩ := ext_map (g := exTwo op x) (ext_sum hm hk hk' h1) _ _ _ _ (h.tail (by simp)) e
      exact ⟨r', by rw [h3]; exact k1, k2⟩
theorem ext_col {m : List Tok} (hm : Stopper m) (z z' : Nat) (s : Bs) : Ext m (bCol z s) (bCol z' s) := fun l l' x r h e => by
  unfold bCol at e ⊢
  rw [sees_cont hm h (s := [46]) (by decide)]
  split at e
  · rename_i hb
    rw [if_pos hb]
    obtain ⟨t, l2, rfl, -, -⟩ := sees_cons hb
    have h2 := h.tail (by simp)
    simp only [List.tail_cons] at e h2
    cases l2 with
    | nil => cases e
    | cons t2 r2 =>
      obtain ⟨t', r', e', k1, k2⟩ := h2.cons
      rw [e']
      dsimp only at e ⊢
      obtain ⟨j1, -, j3⟩ := stp_inj k1
      rw [j1, j3]
      split at e
      · rename_i hk
        rw [if_pos hk]
        cases e
        exact ⟨r', rfl, k2⟩
      · cases e
  · rename_i hb
    rw [if_neg hb]
    cases e
    exact ⟨l', rfl, h⟩
theorem ext_atom {m : List Tok} (hm : Stopper m) (z z' : Nat) {orr orr' : Rd Ex} (h1 : Ext m orr orr') : Ext m (bAtom z orr) (bAtom z' orr') := fun l l' x r h e => by
  cases l with
  | nil => cases e
  | cons t l2 =>
    obtain ⟨t', r', rfl, k1, k2⟩ := h.cons
    obtain ⟨j1, j2, j3⟩ := stp_inj k1
    rw [bAtom] at e
    rw [bAtom]
    rw [sees_stp k1 kwTrue r' l2, sees_stp k1 kwFalse r' l2, sees_stp k1 kwNull r' l2, sees_stp k1 [40] r' l2, j1, j2, j3]
    split at e
    · rename_i h; rw [if_pos h]; cases e; exact ⟨r', rfl, k2⟩
    rename_i h; rw [if_neg h]; clear h
    split at e
    · rename_i h; rw [if_pos h]; cases e; exact ⟨r', rfl, k2⟩
    rename_i h; rw [if_neg h]; clear h
    split at e
    · rename_i h; rw [if_pos h]; cases e; exact ⟨r', rfl, k2⟩
    rename_i h; rw [if_neg h]; clear h
    split at e
    · rename_i h; rw [if_pos h]; exact ext_col hm z z' t.s _ _ _ _ k2 e
    rename_i h; rw [if_neg h]; clear h
    split at e
    · rename_i h; rw [if_pos h]; cases e; exact ⟨r', rfl, k2⟩
    rename_i h; rw [if_neg h]; clear h
    split at e
    · rename_i h; rw [if_pos h]; cases e; exact ⟨r', rfl, k2⟩
    rename_i h; rw [if_neg h]; clear h
    split at e
    · rename_i h; rw [if_pos h]; cases e; exact ⟨r', rfl, k2⟩
    rename_i h; rw [if_neg h]; clear h
    split at e
    · rename_i h
      rw [if_pos h]
      exact ext_bind h1 (fun y => ext_need (z := z) (z' := z') (s := [41]) (ext_ok m y)) l2 r' x r k2 e
    · cases e
structure ExtLev (m : List Tok) (L L' : Lev) : Prop where
  o : Ext m L.o L'.o
  n : Ext m L.n L'.n
  s : Ext m L.s L'.s
theorem ext_lev {m : List Tok} (hm : Stopper m) (z z' : Nat) : ∀ (n n' : Nat), n ≤ n' → ExtLev m (lev z n) (lev z' n')
  | 0, n', _ => ⟨fun l l' x r h e => by (cases e), fun l l' x r h e => by (cases e), fun l l' x r h e => by (cases e)⟩
  | n + 1, 0, h => absurd h (by omega)
  | n + 1, n' + 1, h => by
    have k := ext_lev hm z z' n n' (by omega)
    have s := lev_shr z n
    have s' := lev_shr z' n'
    exact ⟨ext_chain hm (chain_shr s.n _).keep (chain_shr s'.n _).keep (ext_chain hm s.n.keep s'.n.keep k.n ops_and) ops_or,
      ext_must (bTest_shr z s.s) (ext_map k.n) (ext_test hm z z' s.s s'.s k.s),
      ext_must (bAtom_shr z s.o) (ext_map k.s) (ext_atom hm z z' k.o)⟩

theorem ext_listF {α : Type} {m : List Tok} (hm : Stopper m) {z z' : Nat} {one one' : Rd α} (hk : Keep one) (hk' : Keep one') (h1 : Ext m one one') : ∀ (k : Nat) (acc : List α) (l l' : List Tok) (x : List α) (r : List Tok), l.length ≤ k → Ap m l l' → listF z one k acc l = .ok x r → ∃ r', listW z' one' acc l' = .ok x r' ∧ Ap m r r'
  | 0, acc, l, l', x, r, hl, h, he => by
    obtain rfl : l = [] := List.length_eq_zero_iff.1 (by omega)
    cases he
    exact ⟨l', listW_none (by rw [sees_cont hm h (by decide)]; rfl), h⟩
  | k + 1, acc, l, l', x, r, hl, h, he => by
    unfold listF at he
    have h3 := sees_cont hm h (s := [44]) (by decide)
    cases hs : hSees [44] l with
    | false =>
      rw [hs] at he h3
      cases he
      exact ⟨l', listW_none h3, h⟩
    | true =>
      rw [hs, if_pos rfl] at he
      rw [hs] at h3
      split at he
      · cases he
      · rename_i h8
        obtain ⟨t, l2, rfl, -, -⟩ := sees_cons hs
        obtain ⟨y, r1, e1, e2⟩ := bind_eq_ok he
        obtain ⟨r1', k1, k2⟩ := h1 _ _ _ _ (h.tail (by simp)) e1
        have := hk.len e1
        simp only [List.tail_cons, List.length_cons] at this hl
        obtain ⟨r', k3, k4⟩ := ext_listF hm hk hk' h1 k _ _ _ _ _ (by omega) k2 e2
        exact ⟨r', by rw [listW_some hk' h3 h8 k1]; exact k3, k4⟩
theorem ext_list {α : Type} {m : List Tok} (hm : Stopper m) {z z' : Nat} {one one' : Rd α} (hk : Keep one) (hk' : Keep one') (h1 : Ext m one one') : Ext m (listP z one) (listP z' one') := ext_bind h1 fun _ _ _ _ _ h e => ext_listF hm hk hk' h1 _ _ _ _ _ _ (Nat.le_refl _) h e
theorem ext_item {m : List Tok} {z z' : Nat} {orr orr' : Rd Ex} (hk : Shr orr) (h1 : Ext m orr orr') : Ext m (bItem z orr) (bItem z' orr') := fun l l' x r h e => by
  have hl : l ≠ [] := by
    rintro rfl
    obtain ⟨p, hp, hn⟩ := bItem_shr z hk _ _ _ e
    simp at hp
    exact hn hp.1
  have h3 := opOf_some h hl opsAgg
  unfold bItem at e ⊢
  cases ho : opOf opsAgg l with
  | none => rw [ho] at e h3; rw [h3]; exact ext_map h1 _ _ _ _ h e
  | some a =>
    rw [ho] at e h3
    rw [h3]
    dsimp only at e ⊢
    refine ext_need (z := z) (z' := z') (s := [40]) (f := fun r => if a = 2 ∧ hSees [42] r = true then need z [41] r.tail (fun r2 => PR.ok (It.mk 1 exZ) r2) else (orr r).bind fun x r2 => need z [41] r2 (fun r3 => PR.ok (It.mk a x) r3)) (f' := fun r => if a = 2 ∧ hSees [42] r = true then need z' [41] r.tail (fun r2 => PR.ok (It.mk 1 exZ) r2) else (orr' r).bind fun x r2 => need z' [41] r2 (fun r3 => PR.ok (It.mk a x) r3)) ?_ _ _ _ _ (h.tail hl) e
    intro l l' x r h e
    dsimp only at e ⊢
    split at e
    · rename_i hb
      rw [if_pos ⟨hb.1, sees_ap h hb.2⟩]
      exact ext_need (ext_ok m _) _ _ _ _ (h.tail (sees_ne hb.2)) e
    · rename_i hb
      have hl : l ≠ [] := by
        rintro rfl
        obtain ⟨y, r1, e1, -⟩ := bind_eq_ok e
        obtain ⟨p, hp, hn⟩ := hk _ _ _ e1
        simp at hp
        exact hn hp.1
      rw [if_neg (by rw [sees_some h hl]; exact hb)]
      exact ext_bind h1 (fun y => ext_need (z := z) (z' := z') (s := [41]) (ext_ok m (It.mk a y))) _ _ _ _ h e
theorem ext_key {m : List Tok} (hm : Stopper m) (z z' : Nat) : Ext m (bKey z) (bKey z') := fun l l' x r h e => by
  cases l with
  | nil => cases e
  | cons t l2 =>
    obtain ⟨t', r', rfl, k1, k2⟩ := h.cons
    obtain ⟨j1, j2, j3⟩ := stp_inj k1
    rw [bKey] at e
    rw [bKey]
    rw [j1, j2, sees_cont hm k2 (s := kwDesc) (by decide)]
    split at e
    · rename_i h; rw [if_pos h]
      split at e
      · rename_i h; rw [if_pos h]; cases e; exact ⟨r'.tail, rfl, k2.tail (sees_ne h)⟩
      · rename_i h; rw [if_neg h]; cases e; exact ⟨r', rfl, k2⟩
    · cases e
theorem ext_table {m : List Tok} (hm : Stopper m) (z z' : Nat) (kind : Int) (ahead most : Nat) : Ext m (bTable z kind ahead most) (bTable z' kind ahead most) := fun l l' x r h e => by
  cases l with
  | nil => cases e
  | cons t l2 =>
    obtain ⟨t', r', rfl, k1, k2⟩ := h.cons
    obtain ⟨j1, j2, j3⟩ := stp_inj k1
    rw [bTable] at e
    rw [bTable]
    rw [j1, j3]
    split at e
    · rename_i h; rw [if_pos h]
      split at e
      · cases e
      · rename_i h; rw [if_neg h]
        cases l2 with
        | nil =>
          rw [bAlias] at e
          cases e
          cases r' with
          | nil => exact ⟨[], rfl, k2⟩
          | cons u' r2' =>
            have hu : u'.kd ≠ 2 := by
              have k3 : (u' :: r2').map stp = m.map stp := by simpa [Ap] using k2
              cases m with
              | nil => cases k3
              | cons v m2 =>
                simp only [List.map_cons, List.cons.injEq] at k3
                rw [(stp_inj k3.1).1]
                exact hm.kd v m2 rfl
            rw [bAlias, if_neg hu]
            exact ⟨_, rfl, k2⟩
        | cons u r2 =>
          obtain ⟨u', r2', rfl, k3, k4⟩ := k2.cons
          obtain ⟨i1, i2, i3⟩ := stp_inj k3
          rw [bAlias] at e
          rw [bAlias, i1, i3]
          split at e
          · rename_i h; rw [if_pos h]; cases e; exact ⟨r2', rfl, k4⟩
          · rename_i h; rw [if_neg h]; cases e; exact ⟨_, rfl, k2⟩
    · cases e
theorem ext_join {m : List Tok} (hm : Stopper m) (z z' : Nat) {orr orr' : Rd Ex} (h1 : Ext m orr orr') (kind : Int) (ahead most : Nat) : Ext m (bJoin z orr kind ahead most) (bJoin z' orr' kind ahead most) :=
  ext_need (ext_bind (ext_table hm z z' kind ahead most) fun _ => ext_need (ext_map h1))
theorem ext_inner {m : List Tok} (hm : Stopper m) (z z' : Nat) {orr orr' : Rd Ex} (hk : Shr orr) (h1 : Ext m orr orr') (ahead : Nat) : Ext m (bInner z orr ahead) (bInner z' orr' ahead) :=
  ext_must (bJoin_shr z hk 0 ahead 4) (ext_table hm z z' 0 ahead 4) (ext_join hm z z' h1 0 ahead 4)
theorem ext_outer {m : List Tok} (hm : Stopper m) (z z' : Nat) {orr orr' : Rd Ex} (hk : Shr orr) (h1 : Ext m orr orr') (ahead : Nat) : Ext m (bOuter z orr ahead) (bOuter z' orr' ahead) :=
  ext_must (need_shr (bJoin_shr z hk 2 ahead 2).keep) (ext_join hm z z' h1 1 ahead 2) (ext_need (ext_join hm z z' h1 2 ahead 2))
theorem ext_moreF {m : List Tok} (hm : Stopper m) {a b : Bs} (ha : a ∈ contW) (hb : b ∈ contW) {one one' : Nat → Rd Fr} (hk : ∀ n, Shr (one n)) (hk' : ∀ n, Shr (one' n)) (h1 : ∀ n, Ext m (one n) (one' n)) : ∀ (k : Nat) (acc : List Fr) (l l' : List Tok) (x : List Fr) (r : List Tok), l.length ≤ k → Ap m l l' → moreF a b one k acc l = .ok x r → ∃ r', moreW a b one' acc l' = .ok x r' ∧ Ap m r r'
  | 0, acc, l, l', x, r, hl, h, he => by
    obtain rfl : l = [] := List.length_eq_zero_iff.1 (by omega)
    cases he
    exact ⟨l', moreW_none (by rw [sees_cont hm h ha, sees_cont hm h hb]; rfl), h⟩
  | k + 1, acc, l, l', x, r, hl, h, he => by
    unfold moreF at he
    have h3 : (hSees a l' || hSees b l') = (hSees a l || hSees b l) := by rw [sees_cont hm h ha, sees_cont hm h hb]
    cases hs : (hSees a l || hSees b l) with
    | false =>
      rw [hs] at he h3
      cases he
      exact ⟨l', moreW_none h3, h⟩
    | true =>
      rw [hs, if_pos rfl] at he
      rw [hs] at h3
      obtain ⟨y, r1, e1, e2⟩ := bind_eq_ok he
      obtain ⟨r1', k1, k2⟩ := h1 _ _ _ _ _ h e1
      have := (hk _).len e1
      obtain ⟨r', k3, k4⟩ := ext_moreF hm ha hb hk hk' h1 k _ _ _ _ _ (by omega) k2 e2
      exact ⟨r', by rw [moreW_some hk' h3 k1]; exact k3, k4⟩
theorem ext_tables {m : List Tok} (hm : Stopper m) (z z' : Nat) {orr orr' : Rd Ex} (hk : Shr orr) (hk' : Shr orr') (h1 : Ext m orr orr') : Ext m (bTables z orr) (bTables z' orr') :=
  ext_bind (ext_table hm z z' 0 0 4) fun _ => ext_bind (fun l l' x r h e => ext_moreF hm (by decide) (by decide) (bInner_shr z hk) (bInner_shr z' hk') (ext_inner hm z z' hk h1) _ _ _ _ _ _ (Nat.le_refl _) h e) fun _ => ext_map fun l l' x r h e => ext_moreF hm (by decide) (by decide) (bOuter_shr z hk) (bOuter_shr z' hk') (ext_outer hm z z' hk h1) _ _ _ _ _ _ (Nat.le_refl _) h e
theorem ext_where {m : List Tok} (hm : Stopper m) {orr orr' : Rd Ex} (h1 : Ext m orr orr') : Ext m (bWhere orr) (bWhere orr') := ext_may hm (by decide) (ext_map h1) (ext_ok m _)
theorem ext_group {m : List Tok} (hm : Stopper m) (z z' : Nat) {orr orr' : Rd Ex} (hk : Shr orr) (hk' : Shr orr') (h1 : Ext m orr orr') : Ext m (bGroup z orr) (bGroup z' orr') := ext_may hm (by decide) (ext_need (ext_list hm hk.keep hk'.keep h1)) (ext_ok m _)
theorem ext_sel2 {m : List Tok} (hm : Stopper m) (z z' : Nat) {orr orr' : Rd Ex} (hk : Shr orr) (hk' : Shr orr') (h1 : Ext m orr orr') : Ext m (bSel2 z orr) (bSel2 z' orr') := fun l l' x r h e => by
  have hl : l ≠ [] := by
    rintro rfl
    obtain ⟨y, r1, e1, -⟩ := bind_eq_ok e
    obtain ⟨p, hp, hn⟩ := listP_shr (bItem_shr z hk) _ _ _ e1
    simp [bDist, hSees] at hp
    exact hn hp.1
  have hd : (bDist l').1 = (bDist l).1 ∧ Ap m (bDist l).2 (bDist l').2 := by
    unfold bDist
    rw [sees_some h hl]
    split
    · exact ⟨rfl, h.tail hl⟩
    · exact ⟨rfl, h⟩
  unfold bSel2 at e ⊢
  rw [hd.1]
  exact ext_bind (ext_list hm (bItem_shr z hk).keep (bItem_shr z' hk').keep (ext_item hk h1)) (fun i => ext_need (z := z) (z' := z') (s := kwFrom) (ext_bind (ext_tables hm z z' hk hk' h1) fun f => ext_bind (ext_where hm h1) fun w => ext_map (g := fun g => Sel.mk (bDist l).1 i f w g) (ext_group hm z z' hk hk' h1))) _ _ _ _ hd.2 e
theorem ext_sel {m : List Tok} (hm : Stopper m) (z z' : Nat) {orr orr' : Rd Ex} (hk : Shr orr) (hk' : Shr orr') (h1 : Ext m orr orr') {a a' : Nat} (ha : a' ≠ 4) : Ext m (bSel z orr a) (bSel z' orr' a') := fun l l' x r h e => by
  unfold bSel at e ⊢
  simp only [if_neg ha]
  by_cases h4 : a = 4
  · obtain ⟨t, l2, rfl, -, h2⟩ := need_ok e
    rw [if_pos h4] at h2
    cases h2
  · simp only [if_neg h4] at e
    exact ext_need (ext_sel2 hm z z' hk hk' h1) _ _ _ _ h e
theorem bSel_four {z : Nat} {orr : Rd Ex} {a : Nat} {l r : List Tok} {x : Sel} (h : bSel z orr a l = .ok x r) : a ≠ 4 := by
  rintro rfl
  obtain ⟨t, l2, rfl, -, h2⟩ := need_ok h
  cases h2
/-- Selects up to where these end, then what comes behind. -/
theorem ext_selsF {m : List Tok} (hm : Stopper m) (z z' : Nat) {orr orr' : Rd Ex} (hk : Shr orr) (hk' : Shr orr') (h1 : Ext m orr orr') : ∀ (k : Nat) (acc : List Sel) (l l' : List Tok) (ss : List Sel) (r : List Tok), l.length ≤ k → Ap m l l' → selsF z orr k acc l = .ok ss r → ∃ r', Ap m r r' ∧ selsW z' orr' acc l' = selsW z' orr' ss r' ∧ hSees kwUnion r = false
  | 0, acc, l, l', ss, r, hl, h, he => by
    obtain rfl : l = [] := List.length_eq_zero_iff.1 (by omega)
    cases he
    exact ⟨l', h, rfl, rfl⟩
  | k + 1, acc, l, l', ss, r, hl, h, he => by
    unfold selsF at he
    cases hs : hSees kwUnion l with
    | false =>
      rw [hs] at he
      cases he
      exact ⟨l', h, rfl, hs⟩
    | true =>
      rw [hs, if_pos rfl] at he
      have hs' := sees_ap h hs
      have ht := h.tail (sees_ne hs)
      obtain ⟨t, l2, e2, ha, h2⟩ := need_ok he
      have ha' := sees_ap ht ha
      have ht2 := ht.tail (sees_ne ha)
      obtain ⟨y, r1, e1, e3⟩ := bind_eq_ok h2
      have h4 := bSel_four e1
      have e1' : bSel z orr acc.length l.tail.tail = .ok y r1 := by rw [e2]; exact e1
      obtain ⟨r1', k1, k2⟩ := ext_sel hm z z' hk hk' h1 h4 _ _ _ _ ht2 e1'
      have := (bSel_shr z hk _).len e1'
      simp only [List.length_tail] at this
      obtain ⟨r', k3, k4, k5⟩ := ext_selsF hm z z' hk hk' h1 k _ _ _ _ _ (by omega) k2 e3
      exact ⟨r', k3, by rw [selsW_some hk' hs' ha' k1]; exact k4, k5⟩

end Go.Proofs.YtgmmbfcjjgehoaaGreatDoor
