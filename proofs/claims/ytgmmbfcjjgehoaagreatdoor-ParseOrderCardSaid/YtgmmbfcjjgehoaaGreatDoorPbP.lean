/- ParseOrder: the keys as they are written, step by step; the numbers and truths of the arguments. -/
import Derived.Test.YtgmmbfcjjgehoaaGreatDoorPkK
import Derived.Test.YtgmmbfcjjgehoaaGreatDoorQaC
import Derived.Test.YtgmmbfcjjgehoaaGreatDoorStO
import Derived.Laws.BytesString
namespace Go.Proofs.YtgmmbfcjjgehoaaGreatDoor
open Go.ChangeShapes Go.WideShapes Go.ChangeAt Go.RowKit Go.Joins Go.Deep
set_option maxRecDepth 100000

def keyN (z : Int) : Nat := (if z < 0 then -(z + 1) else z).toNat % 100
theorem keyN_lt (z : Int) : keyN z < 100 := Nat.mod_lt _ (by decide)
theorem keyN_of {z : Int} {k : Nat} (h : (k : Int) = if z < 0 then -(z + 1) else z) : keyN z = k % 100 := by unfold keyN; rw [← h]; rfl
def ordL (cs : List Int) (ds : List Bool) (i : Nat) : List (Nat × Bool) := (List.range i).map fun j => (keyN (cs.getD j 0), ds.getD j false)
theorem ordL_len (cs : List Int) (ds : List Bool) (i : Nat) : (ordL cs ds i).length = i := by simp [ordL]
theorem ordL_succ {cs : List Int} {ds : List Bool} {i : Nat} {z : Int} {d : Bool} (hz : cs[i]? = some z) (hd : ds[i]? = some d) : ordL cs ds (i + 1) = ordL cs ds i ++ [(keyN z, d)] := by
  simp [ordL, List.range_succ, List.getD, hz, hd]
theorem ordL_room {cs : List Int} {ds : List Bool} {i : Nat} (h : i < 8) : (ordL cs ds i).length + 1 ≤ maxLen ∧ ((ordL cs ds i).length + 1) * 16 ≤ 140737488355328 := by
  rw [ordL_len]
  unfold maxLen
  omega
theorem ordL_lt {cs : List Int} {ds : List Bool} {i : Nat} : ∀ x ∈ ordL cs ds i, x.1 < 100 := fun x hx => by
  obtain ⟨j, -, rfl⟩ := List.mem_map.1 hx
  exact keyN_lt _
/-- The text behind i keys. -/
def ordT (s : Bs) (L : List (Nat × Bool)) : Bs := s ++ 32 :: (orderS ++ 32 :: keysS L)
theorem ordT_nil (s : Bs) : ordT s [] = s ++ [32, 79, 82, 68, 69, 82, 32, 66, 89, 32] := rfl
theorem ordT_more (s : Bs) {L : List (Nat × Bool)} (h : L ≠ []) (x : Nat × Bool) : ordT s (L ++ [x]) = ordT s L ++ [44, 32] ++ keyS x := by
  unfold ordT
  rw [keysS_more x L h]
  simp
theorem ordT_one (s : Bs) (x : Nat × Bool) : ordT s ([] ++ [x]) = ordT s [] ++ keyS x := by
  unfold ordT
  rw [List.nil_append, show keysS [x] = keyS x from rfl, show keysS [] = [] from rfl]
  simp
theorem ordT_step {s : Bs} {cs : List Int} {ds : List Bool} {i m ta tb : Nat} {z : Int} {d : Bool} (hs : ordL cs ds (i + 1) = ordL cs ds i ++ [(keyN z, d)]) (hk : keyN z = m) {U1 : Bs} (h1 : U1 = ordT s (ordL cs ds i) ++ if i = 0 then [] else [44, 32]) (hta : ta = m / 10) (htb : tb = m % 10) :
    ordT s (ordL cs ds (i + 1)) = (U1 ++ [UInt8.ofNat (48 + ta), UInt8.ofNat (48 + tb)]) ++ if d = true then [32, 100, 101, 115, 99] else [] := by
  subst h1 hta htb hk
  rw [hs]
  by_cases h0 : i = 0
  · subst h0
    rw [show ordL cs ds 0 = [] from rfl, ordT_one, if_pos rfl, List.append_nil, List.append_assoc]
    rfl
  · rw [ordT_more s (fun h => h0 (by have := ordL_len cs ds i; rw [h] at this; exact this.symm)), if_neg h0]
    simp only [List.append_assoc]
    rfl
theorem ordT_len (s : Bs) (L : List (Nat × Bool)) : (ordT s L).length ≤ s.length + 10 + 9 * L.length := by
  unfold ordT
  have := keysS_len L
  simp [orderS]
  omega

theorem parse_ord {s : Bs} {a : Qu} (h1 : s.length ≤ 900) (ha : parseS s = .ok a) (ho : a.order = []) {L : List (Nat × Bool)} (h0 : L ≠ []) (h8 : L.length ≤ 8) (hk : ∀ y ∈ L, y.1 < 100) : parseS (ordT s L) = .ok ⟨a.sels, L.map keyK⟩ ∨ ∃ p, parseS (ordT s L) = .err 5 p := by
  cases L with
  | nil => exact absurd rfl h0
  | cons x L => exact parse_order h1 ha ho x L (by simpa using h8) hk

def RawK.of (x : Nat × Bool) : RawK := ⟨(x.1 : Int) - 1, x.2⟩
theorem ordK_step {cs : List Int} {ds : List Bool} {i m : Nat} {z : Int} {d : Bool} (hs : ordL cs ds (i + 1) = ordL cs ds i ++ [(keyN z, d)]) (hk : keyN z = m) : (ordL cs ds i).map RawK.of ++ [⟨(m : Int) - 1, d⟩] = (ordL cs ds (i + 1)).map RawK.of := by
  rw [hs, List.map_append, ← hk]
  rfl
theorem RawK.cells_of (x : Nat × Bool) : (RawK.of x).cells = [.int .i64 ((x.1 : Int) - 1), .bool x.2] := rfl

section
variable {H : Type} {enc : TypeId × Value → H}
def boolC (w : World) (g o : Nat) (x : Bool) : Prop := w.cell? ⟨g, o, none⟩ = some (.bool x)
def In64 (x : Int) : Prop := -9223372036854775808 ≤ x ∧ x ≤ 9223372036854775807
/-- An argument that is a list of numbers, with their bounds. -/
theorem open_cols {W : World} {spare : Nat → Bool} {held : Bool} {r : Reach} {b0 base : Nat} {v : Value} {d : DataW H} {p : List MemPlace} (hv : Value.okWide Tryz.prog W r b0 42 v) (h : DataW.Trod enc Tryz.prog W base spare held 42 v d p) (hz : ∀ n ∈ d.weights Tryz.prog 42, n ≤ reachBytes) :
    ∃ (q : Option Addr) (l : List Int) (c : Nat), v = .slice q l.length c ∧ l.length ≤ c ∧ c ≤ 9223372036854775807 ∧ ArrA 0 W.heap.size q 1 l (intC W) ∧ ∀ x ∈ l, In64 x := by
  obtain ⟨a0, len, cap, rfl⟩ := okWide_slice Tryz.underlying42 hv
  obtain ⟨fuel, hf⟩ := h
  have hB : Tryz.prog.cellsOf 3 = 1 := by kernel_rfl
  obtain ⟨q, l, c, h1, h2, h3, h4, h5, h6⟩ := open_arr Tryz.underlying42 hB (by omega) (intC W) In64 hf hz (fun cs y n htr _ g o hk => by
    obtain ⟨a, rfl, _, wa⟩ := DataW.trod_int Tryz.underlying3 htr
    exact ⟨a, hk 0 _ (by omega) rfl, show _ ∧ _ from by simpa [Lit.wf, IntKind.min, IntKind.signed, IntKind.bits] using wa⟩)
  simp [Value.cells] at h1
  obtain ⟨rfl, rfl, rfl⟩ := h1
  exact ⟨_, l, _, rfl, h2, h3, h5, h6⟩
/-- An argument that is a list of truths. -/
theorem open_descs {W : World} {spare : Nat → Bool} {held : Bool} {r : Reach} {b0 base : Nat} {v : Value} {d : DataW H} {p : List MemPlace} (hv : Value.okWide Tryz.prog W r b0 43 v) (h : DataW.Trod enc Tryz.prog W base spare held 43 v d p) (hz : ∀ n ∈ d.weights Tryz.prog 43, n ≤ reachBytes) :
    ∃ (q : Option Addr) (l : List Bool) (c : Nat), v = .slice q l.length c ∧ l.length ≤ c ∧ c ≤ 9223372036854775807 ∧ ArrA 0 W.heap.size q 1 l (boolC W) := by
  obtain ⟨a0, len, cap, rfl⟩ := okWide_slice Tryz.underlying43 hv
  obtain ⟨fuel, hf⟩ := h
  have hB : Tryz.prog.cellsOf 4 = 1 := by kernel_rfl
  obtain ⟨q, l, c, h1, h2, h3, h4, h5, _⟩ := open_arr Tryz.underlying43 hB (by omega) (boolC W) (fun _ => True) hf hz (fun cs y n htr _ g o hk => by
    obtain ⟨a, rfl, _⟩ := DataW.trod_bool Tryz.underlying4 htr
    exact ⟨a, hk 0 _ (by omega) rfl, trivial⟩)
  simp [Value.cells] at h1
  obtain ⟨rfl, rfl, rfl⟩ := h1
  exact ⟨_, l, _, rfl, h2, h3, h5⟩
end
/-- Two bytes of a slice, as a text. -/
theorem conv_two {w : World} {g c : Nat} {a b : UInt8} (h : w.cell? ⟨g, 0, none⟩ = some (.int .u8 a.toNat)) (h2 : w.cell? ⟨g, 1, none⟩ = some (.int .u8 b.toNat)) : (convert 44 9 (.slice (some ⟨g, 0, none⟩) 2 c)).run Tryz.prog w = .ok (.string ⟨#[a, b]⟩) w := by
  rw [run_convert_bytes_string w 44 9 5 _ _ _ Tryz.underlying44 Tryz.underlying5 Tryz.underlying9]
  have hl : (loadCells ⟨g, 0, none⟩ ([(a.toNat : Int), (b.toNat : Int)]).length).run Tryz.prog w = .ok (([(a.toNat : Int), (b.toNat : Int)]).map (Value.int .u8)).toArray w := by
    have := run_loadCells_list (P := Tryz.prog) w ⟨g, 0, none⟩ (([(a.toNat : Int), (b.toNat : Int)]).map (Value.int .u8)) (fun j u hu => by
      match j, hu with
      | 0, hu => simp at hu; subst hu; simpa [Addr.add] using h
      | 1, hu => simp at hu; subst hu; simpa [Addr.add] using h2)
    simpa using this
  refine (run_bytesToString w _ _ c [(a.toNat : Int), (b.toNat : Int)] hl).trans ?_
  simp [ByteArray.push]

end Go.Proofs.YtgmmbfcjjgehoaaGreatDoor
