/- Of any histogram, value and step the law HistWhole answers true: no part is more than its whole, the parts below and above are the whole, with one step more nothing is less; for all arguments. -/
import Derived.Test.YtkgdbpfpjpiejaaHiE
import Derived.Test.YtkgdbpfpjpiejaaHiO
import Derived.Deep.RegionLaw
namespace Go.Proofs.Ytkgdbpfpjpiejaa
open Go.ChangeShapes Go.WideShapes Go.ChangeAt Go.RowKit Go.Joins Go.Deep
set_option linter.unusedVariables false
set_option linter.unusedSimpArgs false
set_option maxRecDepth 100000

set_option maxHeartbeats 32000000 in
theorem whole_walk (d nn : Int) (q : Option Addr) (l : List Stp) (c : Nat) (v : Val) (more : Stp) (w : World) (hlm : l.length ≤ 9223372036854775807) (hr : l.length * 40 ≤ reachBytes) (h : StepsA w 0 w.heap.size q l) :
    Calls Try.prog 6 #[.agg #[.int .i64 d, .int .i64 nn, .slice q l.length c], v.v, .agg #[.int .i64 more.x.k, .int .i64 more.x.n, .string more.x.s, .int .i64 more.m]] w fun e w' => e = .returned (.bool true) ∧ Below w.heap.size w w' := by
  unfold reachBytes at hr
  have CP := Lib.hid fun (op : Int) (W : World) (hb : Below w.heap.size w W) => (part_any op d nn q l c v W hlm (StepsA.later h hb))
  have CM := Lib.hid fun (W : World) (hb : Below w.heap.size w W) => (many_any d nn q l c W hlm (StepsA.later h hb))
  have CB := Lib.hid fun (t : Bool) (W : World) (hb : Below w.heap.size w W) => (below_any d nn q l c v t W hlm (StepsA.later h hb))
  have hl1 : (l ++ [more]).length = l.length + 1 := by simp
  have KM := Lib.hid fun (W : World) (q' : Option Addr) (c' : Nat) (hb : StepsA W 0 W.heap.size q' (l ++ [more])) => hl1 ▸ (many_any d nn q' (l ++ [more]) c' W (by rw [hl1]; omega) hb)
  have KB := Lib.hid fun (W : World) (q' : Option Addr) (c' : Nat) (hb : StepsA W 0 W.heap.size q' (l ++ [more])) => hl1 ▸ (below_any d nn q' (l ++ [more]) c' v true W (by rw [hl1]; omega) hb)
  have P12 : ∀ (W : World) (hb : Below w.heap.size w W), _ := fun W hb => CP.out 12 W hb
  have P13 : ∀ (W : World) (hb : Below w.heap.size w W), _ := fun W hb => CP.out 13 W hb
  have P11 : ∀ (W : World) (hb : Below w.heap.size w W), _ := fun W hb => CP.out 11 W hb
  have P14 : ∀ (W : World) (hb : Below w.heap.size w W), _ := fun W hb => CP.out 14 W hb
  have HOK := Lib.hid fun op => part_ok op d l v
  have hwh := part_whole d l v
  have hle := part_le d l v
  have o11 := part_ok 11 d l v
  have o12 := part_ok 12 d l v
  have o13 := part_ok 13 d l v
  have o14 := part_ok 14 d l v
  have hdd := divr_le (manyL l)
  have hmore := many_more l more
  have hbmore := below_more v true l more
  have hbb := below_too v l
  have hmm := many_le l
  rw [show partD 12 d l = divr (manyL l) from rfl] at P12 hwh o12
  rw [show partD 13 d l = divr (manyL l) from rfl] at P13 o13
  rw [show partD 11 d l = divr (manyL l) from rfl] at P11 hwh o11
  rw [show partD 14 d l = divr (manyL l) from rfl] at P14 o14
  generalize divr (manyL l) = dd at *
  generalize partN 12 d l v = n12 at *
  generalize partN 13 d l v = n13 at *
  generalize partN 11 d l v = n11 at *
  generalize partN 14 d l v = n14 at *
  generalize manyL (l ++ [more]) = mk1 at *
  generalize belowL v true (l ++ [more]) = bk1 at *
  obtain ⟨mm, hmmE⟩ : ∃ mm, mm = manyL l := ⟨_, rfl⟩
  obtain ⟨bt, hbtE⟩ : ∃ bt, bt = belowL v true l := ⟨_, rfl⟩
  obtain ⟨bf, hbfE⟩ : ∃ bf, bf = belowL v false l := ⟨_, rfl⟩
  have CT := Lib.hid (CB.out true)
  have CF := Lib.hid (CB.out false)
  rw [← hmmE] at CM hmm hmore hwh
  rw [← hbtE] at CT hbmore hbb
  rw [← hbfE] at CF hbb
  have H12 := Lib.hid P12
  have H13 := Lib.hid P13
  have H11 := Lib.hid P11
  have H14 := Lib.hid P14
  clear P12 P13 P11 P14 CB hmmE hbtE hbfE hl1
  obtain ⟨n, hn⟩ : ∃ n, n = l.length := ⟨_, rfl⟩
  rw [← hn] at CP CM CT CF KM KB H12 H13 H11 H14 hlm hr ⊢
  have HN := Lib.hid hn
  have H := Lib.hid h
  clear hn h
  obtain ⟨vk, vn, vs⟩ := v
  obtain ⟨⟨mk, mn, ms⟩, mi⟩ := more
  go_enter Try.func6, Try.ntmps6
  go_upto_region 1 with fail
  obtain ⟨b, hb⟩ : ∃ b, b = w.heap.size := ⟨_, rfl⟩
  obtain ⟨V, hV⟩ : ∃ V, V = ((w.alloc (.cells #[.int .i64 d, .int .i64 nn, .slice q n c] 29)).alloc (.cells #[.int .i64 vk, .int .i64 vn, .string vs] 31)).alloc (.cells #[.int .i64 mk, .int .i64 mn, .string ms, .int .i64 mi] 39) := ⟨_, rfl⟩
  rw [← hV]
  have HB := Lib.hid (show Below w.heap.size w V from by rw [hV]; exact ext_alloc (ext_alloc (ext_alloc (ext_refl _) _) _) _)
  have l0 : b < V.heap.size := by rw [hV, hb]; simp
  have l1 : b + 1 < V.heap.size := by rw [hV, hb]; simp
  have l2 : b + 2 < V.heap.size := by rw [hV, hb]; simp
  have k0 : V.cell? ⟨b, 0, none⟩ = some (.int .i64 d) := by rw [hV, hb]; simp [go_sem]
  have k1 : V.cell? ⟨b, 1, none⟩ = some (.int .i64 nn) := by rw [hV, hb]; simp [go_sem]
  have k2 : V.cell? ⟨b, 2, none⟩ = some (.slice q n c) := by rw [hV, hb]; simp [go_sem]
  have k3 : V.cell? ⟨b + 1, 0, none⟩ = some (.int .i64 vk) := by rw [hV, hb]; simp [go_sem]
  have k4 : V.cell? ⟨b + 1, 1, none⟩ = some (.int .i64 vn) := by rw [hV, hb]; simp [go_sem]
  have k5 : V.cell? ⟨b + 1, 2, none⟩ = some (.string vs) := by rw [hV, hb]; simp [go_sem]
  have s0 : V.cell? ⟨b + 2, 0, none⟩ = some (.int .i64 mk) := by rw [hV, hb]; simp [go_sem]
  have s1 : V.cell? ⟨b + 2, 1, none⟩ = some (.int .i64 mn) := by rw [hV, hb]; simp [go_sem]
  have s2 : V.cell? ⟨b + 2, 2, none⟩ = some (.string ms) := by rw [hV, hb]; simp [go_sem]
  have s3 : V.cell? ⟨b + 2, 3, none⟩ = some (.int .i64 mi) := by rw [hV, hb]; simp [go_sem]
  rw [← hb]
  have e1 : w.heap.size + 1 = b + 1 := by rw [hb]
  have e2 : w.heap.size + 1 + 1 = b + 2 := by rw [hb]
  try rw [e1]
  try rw [e2]
  have HBW := Lib.hid hb
  clear hV hb e1 e2
  go_upto_region 2 with (go_at_call 9; refine (examples13_any _).mono ?_; rintro e W1 ⟨rfl, hb⟩)
  replace k0 := (hb.cell (p := ⟨b, _, none⟩) l0).trans k0
  replace k1 := (hb.cell (p := ⟨b, _, none⟩) l0).trans k1
  replace k2 := (hb.cell (p := ⟨b, _, none⟩) l0).trans k2
  replace k3 := (hb.cell (p := ⟨b + 1, _, none⟩) l1).trans k3
  replace k4 := (hb.cell (p := ⟨b + 1, _, none⟩) l1).trans k4
  replace k5 := (hb.cell (p := ⟨b + 1, _, none⟩) l1).trans k5
  replace s0 := (hb.cell (p := ⟨b + 2, _, none⟩) l2).trans s0
  replace s1 := (hb.cell (p := ⟨b + 2, _, none⟩) l2).trans s1
  replace s2 := (hb.cell (p := ⟨b + 2, _, none⟩) l2).trans s2
  replace s3 := (hb.cell (p := ⟨b + 2, _, none⟩) l2).trans s3
  replace l0 := Nat.lt_of_lt_of_le l0 hb.size
  replace l1 := Nat.lt_of_lt_of_le l1 hb.size
  replace l2 := Nat.lt_of_lt_of_le l2 hb.size
  replace HB := Lib.hid (HB.out.trans (hb.mono HB.out.size))
  clear hb
  go_wp2_with fail
  have HBL := HB
  go_loopw [8] (fun vi wr => ∃ (j : Nat), vi = .int .i64 (9 + (j : Int)) ∧ j ≤ 10 ∧ Hid (Below W1.heap.size W1 wr)) (fun vi _ => (20 - intOf vi).toNat)
  case atStart => exact ⟨0, rfl, by omega, Below.refl _ _⟩
  case round =>
    obtain ⟨j, rfl, hj, hX⟩ := hrel
    obtain ⟨X, hXX⟩ : ∃ X, X = wr := ⟨_, rfl⟩
    rw [← hXX] at hX
    rw [← hXX]
    have HW1 := Lib.hid hX.out
    have hb := hX.out
    clear hX hXX HBL
    replace k0 := (hb.cell (p := ⟨b, _, none⟩) l0).trans k0
    replace k1 := (hb.cell (p := ⟨b, _, none⟩) l0).trans k1
    replace k2 := (hb.cell (p := ⟨b, _, none⟩) l0).trans k2
    replace k3 := (hb.cell (p := ⟨b + 1, _, none⟩) l1).trans k3
    replace k4 := (hb.cell (p := ⟨b + 1, _, none⟩) l1).trans k4
    replace k5 := (hb.cell (p := ⟨b + 1, _, none⟩) l1).trans k5
    replace s0 := (hb.cell (p := ⟨b + 2, _, none⟩) l2).trans s0
    replace s1 := (hb.cell (p := ⟨b + 2, _, none⟩) l2).trans s1
    replace s2 := (hb.cell (p := ⟨b + 2, _, none⟩) l2).trans s2
    replace s3 := (hb.cell (p := ⟨b + 2, _, none⟩) l2).trans s3
    replace l0 := Nat.lt_of_lt_of_le l0 hb.size
    replace l1 := Nat.lt_of_lt_of_le l1 hb.size
    replace l2 := Nat.lt_of_lt_of_le l2 hb.size
    replace HB := Lib.hid (HB.out.trans (hb.mono HB.out.size))
    clear hb
    by_cases hlt : j < 10
    · have hP := Lib.hid (CP.out (9 + (j : Int)) X HB.out)
      obtain ⟨h0, h1, h2⟩ := HOK.out (9 + (j : Int))
      generalize partN (9 + (j : Int)) d l ⟨vk, vn, vs⟩ = pn at *
      generalize partD (9 + (j : Int)) d l = pd at *
      have hwj : IntKind.i64.wrap (9 + (j : Int) + 1) = 9 + (j : Int) + 1 := by rw [IntKind.wrap_i64]; omega
      have hle18 : 9 + (j : Int) ≤ 18 := by omega
      go_wp2_with (go_at_call 18; refine hP.out.mono ?_; rintro e W2 ⟨rfl, hb⟩)
      go_roundw
      case rel => exact ⟨j + 1, by congr 1 <;> omega, by omega, HW1.out.trans (hb.mono HW1.out.size)⟩
      case measure => simp [intOf] <;> omega
    · obtain rfl : j = 10 := by omega
      clear HW1 HOK CP hlt hj
      go_upto_region 9 with (go_at_call 18; refine (H12.out _ HB.out).mono ?_; rintro e W2 ⟨rfl, hb⟩)
      replace k0 := (hb.cell (p := ⟨b, _, none⟩) l0).trans k0
      replace k1 := (hb.cell (p := ⟨b, _, none⟩) l0).trans k1
      replace k2 := (hb.cell (p := ⟨b, _, none⟩) l0).trans k2
      replace k3 := (hb.cell (p := ⟨b + 1, _, none⟩) l1).trans k3
      replace k4 := (hb.cell (p := ⟨b + 1, _, none⟩) l1).trans k4
      replace k5 := (hb.cell (p := ⟨b + 1, _, none⟩) l1).trans k5
      replace s0 := (hb.cell (p := ⟨b + 2, _, none⟩) l2).trans s0
      replace s1 := (hb.cell (p := ⟨b + 2, _, none⟩) l2).trans s1
      replace s2 := (hb.cell (p := ⟨b + 2, _, none⟩) l2).trans s2
      replace s3 := (hb.cell (p := ⟨b + 2, _, none⟩) l2).trans s3
      replace l0 := Nat.lt_of_lt_of_le l0 hb.size
      replace l1 := Nat.lt_of_lt_of_le l1 hb.size
      replace l2 := Nat.lt_of_lt_of_le l2 hb.size
      replace HB := Lib.hid (HB.out.trans (hb.mono HB.out.size))
      clear hb
      go_upto_region 10 with (go_at_call 18; refine (H13.out _ HB.out).mono ?_; rintro e W3 ⟨rfl, hb⟩)
      replace k0 := (hb.cell (p := ⟨b, _, none⟩) l0).trans k0
      replace k1 := (hb.cell (p := ⟨b, _, none⟩) l0).trans k1
      replace k2 := (hb.cell (p := ⟨b, _, none⟩) l0).trans k2
      replace k3 := (hb.cell (p := ⟨b + 1, _, none⟩) l1).trans k3
      replace k4 := (hb.cell (p := ⟨b + 1, _, none⟩) l1).trans k4
      replace k5 := (hb.cell (p := ⟨b + 1, _, none⟩) l1).trans k5
      replace s0 := (hb.cell (p := ⟨b + 2, _, none⟩) l2).trans s0
      replace s1 := (hb.cell (p := ⟨b + 2, _, none⟩) l2).trans s1
      replace s2 := (hb.cell (p := ⟨b + 2, _, none⟩) l2).trans s2
      replace s3 := (hb.cell (p := ⟨b + 2, _, none⟩) l2).trans s3
      replace l0 := Nat.lt_of_lt_of_le l0 hb.size
      replace l1 := Nat.lt_of_lt_of_le l1 hb.size
      replace l2 := Nat.lt_of_lt_of_le l2 hb.size
      replace HB := Lib.hid (HB.out.trans (hb.mono HB.out.size))
      clear hb
      go_upto_region 11 with (go_at_call 18; refine (H11.out _ HB.out).mono ?_; rintro e W4 ⟨rfl, hb⟩)
      replace k0 := (hb.cell (p := ⟨b, _, none⟩) l0).trans k0
      replace k1 := (hb.cell (p := ⟨b, _, none⟩) l0).trans k1
      replace k2 := (hb.cell (p := ⟨b, _, none⟩) l0).trans k2
      replace k3 := (hb.cell (p := ⟨b + 1, _, none⟩) l1).trans k3
      replace k4 := (hb.cell (p := ⟨b + 1, _, none⟩) l1).trans k4
      replace k5 := (hb.cell (p := ⟨b + 1, _, none⟩) l1).trans k5
      replace s0 := (hb.cell (p := ⟨b + 2, _, none⟩) l2).trans s0
      replace s1 := (hb.cell (p := ⟨b + 2, _, none⟩) l2).trans s1
      replace s2 := (hb.cell (p := ⟨b + 2, _, none⟩) l2).trans s2
      replace s3 := (hb.cell (p := ⟨b + 2, _, none⟩) l2).trans s3
      replace l0 := Nat.lt_of_lt_of_le l0 hb.size
      replace l1 := Nat.lt_of_lt_of_le l1 hb.size
      replace l2 := Nat.lt_of_lt_of_le l2 hb.size
      replace HB := Lib.hid (HB.out.trans (hb.mono HB.out.size))
      clear hb
      go_upto_region 12 with (go_at_call 18; refine (H14.out _ HB.out).mono ?_; rintro e W5 ⟨rfl, hb⟩)
      replace k0 := (hb.cell (p := ⟨b, _, none⟩) l0).trans k0
      replace k1 := (hb.cell (p := ⟨b, _, none⟩) l0).trans k1
      replace k2 := (hb.cell (p := ⟨b, _, none⟩) l0).trans k2
      replace k3 := (hb.cell (p := ⟨b + 1, _, none⟩) l1).trans k3
      replace k4 := (hb.cell (p := ⟨b + 1, _, none⟩) l1).trans k4
      replace k5 := (hb.cell (p := ⟨b + 1, _, none⟩) l1).trans k5
      replace s0 := (hb.cell (p := ⟨b + 2, _, none⟩) l2).trans s0
      replace s1 := (hb.cell (p := ⟨b + 2, _, none⟩) l2).trans s1
      replace s2 := (hb.cell (p := ⟨b + 2, _, none⟩) l2).trans s2
      replace s3 := (hb.cell (p := ⟨b + 2, _, none⟩) l2).trans s3
      replace l0 := Nat.lt_of_lt_of_le l0 hb.size
      replace l1 := Nat.lt_of_lt_of_le l1 hb.size
      replace l2 := Nat.lt_of_lt_of_le l2 hb.size
      replace HB := Lib.hid (HB.out.trans (hb.mono HB.out.size))
      clear hb
      clear H12 H13 H11 H14
      go_cut [93] (fun v9 wx => v9 = .bool false ∧ Hid (Below W5.heap.size W5 wx))
      case first =>
        by_cases hm0 : 0 < mm
        · have w1 : IntKind.i64.wrap (n12 + n13) = dd := by rw [(hwh hm0).1, IntKind.wrap_i64]; omega
          have w2 : IntKind.i64.wrap (n11 + n14) = dd := by rw [(hwh hm0).2, IntKind.wrap_i64]; omega
          go_wp2_with (go_at_call 20; refine (CM.out _ HB.out).mono ?_; rintro e W6 ⟨rfl, hb⟩)
          go_meet
          exact ⟨by simp, hb⟩
        · have hm1 : mm ≤ 0 := by omega
          go_wp2_with (go_at_call 20; refine (CM.out _ HB.out).mono ?_; rintro e W6 ⟨rfl, hb⟩)
          go_meet
          exact ⟨by simp, hb⟩
      case rest =>
        obtain ⟨X, hX⟩ : ∃ X, X = wc := ⟨_, rfl⟩
        obtain ⟨rfl, hcut⟩ := hcut
        rw [← hX] at hcut ⊢
        have hb := hcut.out
        clear hX hcut
        replace k0 := (hb.cell (p := ⟨b, _, none⟩) l0).trans k0
        replace k1 := (hb.cell (p := ⟨b, _, none⟩) l0).trans k1
        replace k2 := (hb.cell (p := ⟨b, _, none⟩) l0).trans k2
        replace k3 := (hb.cell (p := ⟨b + 1, _, none⟩) l1).trans k3
        replace k4 := (hb.cell (p := ⟨b + 1, _, none⟩) l1).trans k4
        replace k5 := (hb.cell (p := ⟨b + 1, _, none⟩) l1).trans k5
        replace s0 := (hb.cell (p := ⟨b + 2, _, none⟩) l2).trans s0
        replace s1 := (hb.cell (p := ⟨b + 2, _, none⟩) l2).trans s1
        replace s2 := (hb.cell (p := ⟨b + 2, _, none⟩) l2).trans s2
        replace s3 := (hb.cell (p := ⟨b + 2, _, none⟩) l2).trans s3
        replace l0 := Nat.lt_of_lt_of_le l0 hb.size
        replace l1 := Nat.lt_of_lt_of_le l1 hb.size
        replace l2 := Nat.lt_of_lt_of_le l2 hb.size
        replace HB := Lib.hid (HB.out.trans (hb.mono HB.out.size))
        clear hb
        go_upto_region 15 with fail
        obtain ⟨g, hg⟩ : ∃ g, g = X.heap.size := ⟨_, rfl⟩
        have hg2 : b + 2 < g := by rw [hg]; exact l2
        obtain ⟨Y, hY⟩ : ∃ Y, Y = X.alloc (.cells #[.int .i64 d, .int .i64 nn, .slice q n c] 29) := ⟨_, rfl⟩
        rw [← hg]
        rw [← hY]
        have y0 : Y.cell? ⟨g, 0, none⟩ = some (.int .i64 d) := by rw [hY, hg]; simp [go_sem]
        have y1 : Y.cell? ⟨g, 1, none⟩ = some (.int .i64 nn) := by rw [hY, hg]; simp [go_sem]
        have y2 : Y.cell? ⟨g, 2, none⟩ = some (.slice q n c) := by rw [hY, hg]; simp [go_sem]
        have yf : Y.frozen? ⟨g, 2, none⟩ = false := by rw [hY, hg]; simp [go_sem]
        have yl : g < Y.heap.size := by rw [hY, hg]; simp
        have hb : Below X.heap.size X Y := by rw [hY]; exact ext_alloc (ext_refl _) _
        clear hY hg
        replace k0 := (hb.cell (p := ⟨b, _, none⟩) l0).trans k0
        replace k1 := (hb.cell (p := ⟨b, _, none⟩) l0).trans k1
        replace k2 := (hb.cell (p := ⟨b, _, none⟩) l0).trans k2
        replace k3 := (hb.cell (p := ⟨b + 1, _, none⟩) l1).trans k3
        replace k4 := (hb.cell (p := ⟨b + 1, _, none⟩) l1).trans k4
        replace k5 := (hb.cell (p := ⟨b + 1, _, none⟩) l1).trans k5
        replace s0 := (hb.cell (p := ⟨b + 2, _, none⟩) l2).trans s0
        replace s1 := (hb.cell (p := ⟨b + 2, _, none⟩) l2).trans s1
        replace s2 := (hb.cell (p := ⟨b + 2, _, none⟩) l2).trans s2
        replace s3 := (hb.cell (p := ⟨b + 2, _, none⟩) l2).trans s3
        replace l0 := Nat.lt_of_lt_of_le l0 hb.size
        replace l1 := Nat.lt_of_lt_of_le l1 hb.size
        replace l2 := Nat.lt_of_lt_of_le l2 hb.size
        replace HB := Lib.hid (HB.out.trans (hb.mono HB.out.size))
        clear hb
        have AD := Lib.hid (cells_of (StepsA.later H.out (show Below w.heap.size w Y.drew from HB.out.drew)))
        have AD0 := Lib.hid (cells_of (StepsA.later H.out (show Below w.heap.size w (Y.alloc (.cells #[.int .i64 mk, .int .i64 mn, .string ms, .int .i64 mi] 39)).drew from (HB.out.trans ((ext_alloc (ext_refl Y) (.cells #[.int .i64 mk, .int .i64 mn, .string ms, .int .i64 mi] 39)).mono HB.out.size)).drew)))
        go_cut [] (fun wx => ∃ (q2 : Option Addr) (c2 : Nat), Hid (HBox Y wx g d nn (.slice q2 (n + 1) c2) (l ++ [(⟨⟨mk, mn, ms⟩, mi⟩ : Stp)])))
        case first =>
          go_wp2_with fail
          go_region_law (first | (refine step_append_flat rfl _ _ 27 39 rfl Try.underlying27 _ 40 Try.infoStep rfl (by omega) sCell_len sCell_one (g + 1) (.slice none 0 0) [] rfl (OwnF.nil _ _ _) _ n c l HN.out rfl 0 _ AD.out (by (have e := HN.out; unfold maxLen; simp; omega)) (by (have e := HN.out; simp; omega)) (by first | omega | (simp; omega)) ?_; intro q1 c1 wA OA bA oA hat; have bXA := Lib.hid (show Below Y.heap.size Y wA from ((Below.refl _ _).drew).trans (oA.below (Nat.le_refl _) (fun k hk => by simp [Value.ownBlock] at hk))); have OAA := Lib.hid (show OwnSt wA (g + 1) (.slice q1 n c1) l by rw [HN.out]; exact OA); rw [show ([] ++ l : List Stp).length = n from HN.out.symm]; have r0 := (bXA.out.cell (p := ⟨b + 2, 0, none⟩) l2).trans s0; have r1 := (bXA.out.cell (p := ⟨b + 2, 1, none⟩) l2).trans s1; have r2 := (bXA.out.cell (p := ⟨b + 2, 2, none⟩) l2).trans s2; have r3 := (bXA.out.cell (p := ⟨b + 2, 3, none⟩) l2).trans s3; have rl := Nat.lt_of_lt_of_le l2 bXA.out.size; have rg := Nat.lt_of_lt_of_le yl bXA.out.size; clear OA bA oA hat) | (refine step_append_flat rfl _ _ 27 39 rfl Try.underlying27 _ 40 Try.infoStep rfl (by omega) sCell_len sCell_one (g + 1) (.slice none 0 0) [] rfl (OwnF.nil _ _ _) _ n c l HN.out rfl 0 _ AD0.out (by (have e := HN.out; unfold maxLen; simp; omega)) (by (have e := HN.out; simp; omega)) (by first | omega | (simp; omega)) ?_; intro q1 c1 wC OA bA oA hat; have bXC := Lib.hid (show Below Y.heap.size Y wC from (show Below Y.heap.size Y (Y.alloc (.cells #[.int .i64 mk, .int .i64 mn, .string ms, .int .i64 mi] 39)) from ext_alloc (ext_refl _) _).trans (((Below.refl _ _).drew).trans (oA.below (by simp [World.size_alloc]) (fun k hk => by simp [Value.ownBlock] at hk)))); have OAC := Lib.hid (show OwnSt wC (g + 1) (.slice q1 n c1) l by rw [HN.out]; exact OA); rw [show ([] ++ l : List Stp).length = n from HN.out.symm]; have r0 := (bXC.out.cell (p := ⟨b + 2, 0, none⟩) l2).trans s0; have r1 := (bXC.out.cell (p := ⟨b + 2, 1, none⟩) l2).trans s1; have r2 := (bXC.out.cell (p := ⟨b + 2, 2, none⟩) l2).trans s2; have r3 := (bXC.out.cell (p := ⟨b + 2, 3, none⟩) l2).trans s3; have rl := Nat.lt_of_lt_of_le l2 bXC.out.size; have rg := Nat.lt_of_lt_of_le yl bXC.out.size; have HNB := Lib.hid (show Below (Y.heap.size + 1) (Y.alloc (.cells #[.int .i64 mk, .int .i64 mn, .string ms, .int .i64 mi] 39)) wC from ((Below.refl _ _).drew).trans (oA.below (by simp [World.size_alloc]) (fun k hk => by simp [Value.ownBlock] at hk))); clear OA bA oA hat) | (refine step_append_flat rfl _ _ 27 39 rfl Try.underlying27 _ 40 Try.infoStep rfl (by omega) sCell_len sCell_one (g + 1) (.slice q1 n c1) l rfl (OAA.out.later (by (repeat (first | exact ext_refl _ | assumption | (refine ext_alloc ?_ _) | (refine ext_drewN ?_ _) | refine ext_drew ?_ | (refine ext_set (by first | (simp; done) | (simp; omega)) _ ?_) | (refine ext_trans ?_ (by assumption)))))) _ 1 1 [⟨⟨mk, mn, ms⟩, mi⟩] rfl rfl 0 _ (one_block (W := wA) sCell_len 39 #[.int .i64 mk, .int .i64 mn, .string ms, .int .i64 mi] ⟨⟨mk, mn, ms⟩, mi⟩ rfl _ rfl) (by (have e := HN.out; unfold maxLen; simp; omega)) (by (have e := HN.out; simp; omega)) (by first | omega | (simp; omega)) ?_; intro q2 c2 wB OB bB oB hat; have hl2 : (l ++ [(⟨⟨mk, mn, ms⟩, mi⟩ : Stp)]).length = n + 1 := (by rw [List.length_append, ← HN.out]; rfl); rw [hl2]; have HOB := Lib.hid (show OwnSt wB (g + 1) (.slice q2 (n + 1) c2) (l ++ [(⟨⟨mk, mn, ms⟩, mi⟩ : Stp)]) by rw [← hl2]; exact OB); have bYB := Lib.hid (show Below (g + 1) Y wB from ((bXA.out.mono (show g + 1 ≤ Y.heap.size by omega)).trans (Below.mono (show Below wA.heap.size wA _ from by (repeat (first | exact ext_refl _ | assumption | (refine ext_alloc ?_ _) | (refine ext_drewN ?_ _) | refine ext_drew ?_ | (refine ext_set (by first | (simp; done) | (simp; omega)) _ ?_) | (refine ext_trans ?_ (by assumption))))) (show g + 1 ≤ wA.heap.size by omega))).trans bB); have t1 := (bYB.out.cell (p := ⟨g, 2, none⟩) (Nat.lt_succ_self _)).trans y2; have t2 := (bYB.out.frozen (p := ⟨g, 2, none⟩) (Nat.lt_succ_self _)).trans yf; have t3 := Nat.lt_of_lt_of_le yl bYB.out.size; clear OB bB oB hat hl2) | (refine step_append_flat rfl _ _ 27 39 rfl Try.underlying27 _ 40 Try.infoStep rfl (by omega) sCell_len sCell_one (g + 1) (.slice q1 n c1) l rfl OAC.out _ 1 1 [⟨⟨mk, mn, ms⟩, mi⟩] rfl rfl 0 _ (ArrA.imp (one_block (W := Y) sCell_len 39 #[.int .i64 mk, .int .i64 mn, .string ms, .int .i64 mi] ⟨⟨mk, mn, ms⟩, mi⟩ rfl _ rfl) (fun gg oo _ _ h2 h3 kk uu hk => (HNB.out.cell (p := ⟨gg, oo + kk, none⟩) h2).trans (h3 kk uu hk))) (by (have e := HN.out; unfold maxLen; simp; omega)) (by (have e := HN.out; simp; omega)) (by first | omega | (simp; omega)) ?_; intro q2 c2 wB OB bB oB hat; have hl2 : (l ++ [(⟨⟨mk, mn, ms⟩, mi⟩ : Stp)]).length = n + 1 := (by rw [List.length_append, ← HN.out]; rfl); rw [hl2]; have HOB := Lib.hid (show OwnSt wB (g + 1) (.slice q2 (n + 1) c2) (l ++ [(⟨⟨mk, mn, ms⟩, mi⟩ : Stp)]) by rw [← hl2]; exact OB); have bYB := Lib.hid (show Below (g + 1) Y wB from (bXC.out.mono (show g + 1 ≤ Y.heap.size by omega)).trans bB); have t1 := (bYB.out.cell (p := ⟨g, 2, none⟩) (Nat.lt_succ_self _)).trans y2; have t2 := (bYB.out.frozen (p := ⟨g, 2, none⟩) (Nat.lt_succ_self _)).trans yf; have t3 := Nat.lt_of_lt_of_le yl bYB.out.size; clear OB bB oB hat hl2))
          all_goals go_wp2_with fail
          all_goals go_meet
          all_goals exact ⟨q2, c2, Lib.hid (HBox.make (Below.refl _ _) y0 y1 y2 yf yl bYB.out HOB.out)⟩
        case rest =>
          obtain ⟨q2, c2, hZ⟩ := hcut
          obtain ⟨Z, hZZ⟩ : ∃ Z, Z = wc := ⟨_, rfl⟩
          rw [← hZZ] at hZ ⊢
          have HZ := Lib.hid hZ.out
          clear hZ hZZ
          have HST := Lib.hid (show StepsA Z 0 Z.heap.size q2 (l ++ [(⟨⟨mk, mn, ms⟩, mi⟩ : Stp)]) from by
            obtain ⟨q3, c3, e, -, -, st⟩ := HZ.out.own.read
            simp only [Value.slice.injEq] at e
            rw [e.1]
            exact st)
          have HB2 := Lib.hid (show Below w.heap.size w Z from HB.out.trans (HZ.out.bel.mono (by have := HBW.out; omega)))
          replace k0 := (HZ.out.bel.cell (p := ⟨b, _, none⟩) (show b < g by omega)).trans k0
          replace k1 := (HZ.out.bel.cell (p := ⟨b, _, none⟩) (show b < g by omega)).trans k1
          replace k2 := (HZ.out.bel.cell (p := ⟨b, _, none⟩) (show b < g by omega)).trans k2
          replace k3 := (HZ.out.bel.cell (p := ⟨b + 1, _, none⟩) (show b + 1 < g by omega)).trans k3
          replace k4 := (HZ.out.bel.cell (p := ⟨b + 1, _, none⟩) (show b + 1 < g by omega)).trans k4
          replace k5 := (HZ.out.bel.cell (p := ⟨b + 1, _, none⟩) (show b + 1 < g by omega)).trans k5
          replace l0 : b < Z.heap.size := by have := HZ.out.lt; omega
          replace l1 : b + 1 < Z.heap.size := by have := HZ.out.lt; omega
          replace y0 := HZ.out.c0
          replace y1 := HZ.out.c1
          replace y2 := HZ.out.c2
          replace yl := HZ.out.lt
          clear s0 s1 s2 s3 l2 AD AD0 HB HZ yf HBW
          have is := After.some Z
          have qk0 := fun (z : After Z) => (z.cell (b) _ l0).trans k0
          have qk1 := fun (z : After Z) => (z.cell (b) _ l0).trans k1
          have qk2 := fun (z : After Z) => (z.cell (b) _ l0).trans k2
          have qk3 := fun (z : After Z) => (z.cell (b + 1) _ l1).trans k3
          have qk4 := fun (z : After Z) => (z.cell (b + 1) _ l1).trans k4
          have qk5 := fun (z : After Z) => (z.cell (b + 1) _ l1).trans k5
          have qy0 := fun (z : After Z) => (z.cell (g) _ yl).trans y0
          have qy1 := fun (z : After Z) => (z.cell (g) _ yl).trans y1
          have qy2 := fun (z : After Z) => (z.cell (g) _ yl).trans y2
          have D1 : ∀ z : After Z, Calls Try.prog 20 #[.agg #[.int .i64 d, .int .i64 nn, .slice q2 (n + 1) c2]] z.W fun e w' => e = .returned (.int .i64 mk1) ∧ Below z.W.heap.size z.W w' := fun z => KM.out z.W q2 c2 (StepsA.later HST.out z.below)
          have D2 : ∀ z : After Z, Calls Try.prog 20 #[.agg #[.int .i64 d, .int .i64 nn, .slice q n c]] z.W fun e w' => e = .returned (.int .i64 mm) ∧ Below z.W.heap.size z.W w' := fun z => CM.out z.W (HB2.out.trans (z.below.mono HB2.out.size))
          have D3 : ∀ z : After Z, Calls Try.prog 22 #[.agg #[.int .i64 d, .int .i64 nn, .slice q2 (n + 1) c2], .agg #[.int .i64 vk, .int .i64 vn, .string vs], .bool true] z.W fun e w' => e = .returned (.int .i64 bk1) ∧ Below z.W.heap.size z.W w' := fun z => KB.out z.W q2 c2 (StepsA.later HST.out z.below)
          have D4 : ∀ z : After Z, Calls Try.prog 22 #[.agg #[.int .i64 d, .int .i64 nn, .slice q n c], .agg #[.int .i64 vk, .int .i64 vn, .string vs], .bool true] z.W fun e w' => e = .returned (.int .i64 bt) ∧ Below z.W.heap.size z.W w' := fun z => CT.out z.W (HB2.out.trans (z.below.mono HB2.out.size))
          have D5 : ∀ z : After Z, Calls Try.prog 22 #[.agg #[.int .i64 d, .int .i64 nn, .slice q n c], .agg #[.int .i64 vk, .int .i64 vn, .string vs], .bool false] z.W fun e w' => e = .returned (.int .i64 bf) ∧ Below z.W.heap.size z.W w' := fun z => CF.out z.W (HB2.out.trans (z.below.mono HB2.out.size))
          go_wp2_with fail
          refine wp_region_after (by kernel_rfl) (by kernel_rfl) ?_
          have f1 : decide (n11 ≤ n12) = true := by simpa using hle
          have f2 : decide (mm ≤ mk1) = true := by simpa using hmore
          have f3 : decide (bt ≤ bk1) = true := by simpa using hbmore
          have f4 : decide (bf ≤ bt) = true := by simpa using hbb
          repeat (quiet_step ((first | (go_at_call 20; first | (with_reducible exact calls_after (D1 _)) | (with_reducible exact calls_after (D2 _))) | (go_at_call 22; first | (with_reducible exact calls_after (D3 _)) | (with_reducible exact calls_after (D4 _)) | (with_reducible exact calls_after (D5 _))))))
          refine wpQuiet_nil ?_
          intro W9 hw
          obtain ⟨⟨W8, hb⟩, rfl⟩ := hw
          have HB9 := HB2.out.trans (hb.mono HB2.out.size)
          clear qk0 k0 qk1 k1 qk2 k2 qk3 k3 qk4 k4 qk5 k5 qy0 y0 qy1 y1 qy2 y2 D1 D2 D3 D4 D5 is hb HB2 CM CT CF KM KB HST
          go_wp2_with fail
          go_ret
          exact ⟨by simp [*], HB9⟩

/- FRAME -/

set_option maxRecDepth 100000 in
theorem histWhole_lifted (os : Os) (started : os.Started) (H : Type) (enc : TypeId × Value → H) :
    ReturnsInHanded {} Try.checked os 6 .any (Rows.histWholeSpec.pre6 enc Try.prog Try.f6 Rows.histWholeRow.domain false) (Rows.histWholeSpec.post enc Try.prog Try.f6 false true false false) := by
  refine returnsInHanded_of_change_sized (C := Try.checked) Try.own started (by kernel_rfl) Try.func6
    (ChangeSpec.witness6 (enc := enc) (C := Try.checked) false ⟨#[], #[.agg #[.int .i64 0, .int .i64 0, .slice none 0 0], .agg #[.int .i64 0, .int .i64 0, .string ⟨#[]⟩], .agg #[.int .i64 0, .int .i64 0, .string ⟨#[]⟩, .int .i64 0]], []⟩ 8 (by kernel_rfl) (by kernel_rfl) (by kernel_rfl) (by kernel_rfl)) ?_
  intro W base args ds gs before hval0 hW _ hsz _
  have hval : ∀ (j : Nat) t v, Try.f6.params[j]? = some t → args[j]? = some v → Value.okWide Try.prog W .any base t v := hval0
  have hW' := hW
  obtain ⟨p, q, hA0, hV, rfl, _, _⟩ := hW
  have hA : DataW.TrodAll enc Try.prog W 0 (fun _ => true) true Try.f6.params.toList args.toList ds p := hA0
  rw [Try.params6] at hA hval hsz
  obtain ⟨v0, v1, v2, d0, d1, d2, p0, p1, p2, rfl, rfl, rfl, h0, h1, h2⟩ := trodAll_three hA
  obtain ⟨x1, rfl, fx1⟩ := open_val (hval 1 31 v1 rfl rfl) h1
  obtain ⟨s2, rfl, fs2⟩ := open_step (hval 2 39 v2 rfl rfl) h2
  obtain ⟨d0, n0, q0, L0, c0, rfl, le0, m0, r0, tx0, fx0⟩ := open_hist (hval 0 29 v0 rfl rfl) h0 (fun n hn => of_decide_eq_true (List.all_eq_true.1 hsz _ (DataW.weights_mem_each (j := 0) (t := 29) rfl rfl n hn)))
  clear hA0 hval0
  refine (whole_walk d0 n0 q0 L0 c0 x1 s2 W (Nat.le_trans le0 m0) r0 tx0).mono fun e W' ⟨he, hb⟩ => ⟨_, he, post_law rfl hW' rfl rfl ?_ hb⟩
  intro t ht
  rw [Try.params6] at ht
  simp only [List.mem_cons, List.not_mem_nil, or_false] at ht
  rcases ht with rfl | rfl | rfl <;> exact ⟨by kernel_rfl, of_decide_eq_true (by kernel_rfl)⟩

theorem histWhole_holds : Rows.HistWholeSaid :=
  OpenClaim.holds_of_wide 6 Try.f6 rfl rfl rfl rfl rfl rfl rfl ⟨rfl, rfl, rfl, rfl, rfl⟩ rfl rfl rfl rfl rfl (by kernel_rfl) Try.func6 (by kernel_rfl)
    (of_decide_eq_true (by kernel_rfl)) (by unfold Func.isWrapper; rw [if_neg (of_decide_eq_false (by kernel_rfl))]; exact ⟨rfl, rfl⟩)
    (fun os started H enc _ => histWhole_lifted os started H enc)

#print axioms histWhole_holds

end Go.Proofs.Ytkgdbpfpjpiejaa
