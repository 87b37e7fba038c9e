/- The reference: the kind of an expression (kind, Kind). -/
import Derived.Test.YthdnbcdcfaocmaaDoorExL
import Derived.Test.YthdnbcdcfaocmaaDoorDvK
import Derived.Test.YthdnbcdcfaocmaaDoorFlat
import Derived.Test.YthdnbcdcfaocmaaDoorExT
namespace Go.Proofs.YthdnbcdcfaocmaaDoor
open Go.RowKit
set_option maxRecDepth 100000

abbrev iCell (z : Int) : List Value := [.int .i64 z]
theorem iCell_len (z : Int) : (iCell z).length = 1 := rfl
theorem iCell_one (z : Int) (u : Value) (h : u ∈ iCell z) : u.oneCell' = true := by simp at h; rw [h]; rfl
theorem Tryd.infoInt8 : (Tryd.prog.info? 3).map (fun i => (i.zero, i.size, i.bytes)) = some (some (.int .i64 0), 1, 8) := by kernel_rfl
def OwnK (w : World) (base : Nat) (v : Value) (l : List Int) : Prop := OwnF w base 3 1 iCell v l
/-- What an own slice of numbers reads as. -/
theorem OwnK.read {w : World} {base : Nat} {v : Value} {l : List Int} (h : OwnK w base v l) : ∃ q c, v = .slice q l.length c ∧ l.length ≤ c ∧ c ≤ 9223372036854775807 ∧ ∀ i z, l[i]? = some z → ∃ g, q = some ⟨g, 0, none⟩ ∧ g < w.heap.size ∧ w.cell? ⟨g, i, none⟩ = some (.int .i64 z) := by
  obtain ⟨q, c, h1, h2, h3, h4, h5⟩ := OwnF.arr iCell_len h
  refine ⟨q, c, h1, h2, h3, fun i z hz => ?_⟩
  obtain ⟨g, off, rfl, hb, hg, hc⟩ := h5 i (List.getElem?_eq_some_iff.1 hz).1
  obtain ⟨rfl, -, -, -⟩ := h4 g off rfl
  refine ⟨g, rfl, hg, ?_⟩
  have := hc i z hz 0 _ rfl
  simpa using this

set_option maxHeartbeats 8000000 in
theorem rkind_const (v : Val) (rel col n : Int) (s : ByteArray) (q : Option Addr) (c : Nat) (w : World) (cv pv : Value) (cols : List (List Int)) (ps : List Int) : Calls Tryd.prog 59 #[.agg (exCells 1 v rel col n s q ([] : List Ex).length c).toArray, cv, pv] w fun e w' => KindIs (kindE cols ps (.mk 1 v rel col n s [])) e ∧ Below w.heap.size w w' := by
  have HQ := Lib.hid (show kindE cols ps (.mk 1 v rel col n s []) = some v.k by rw [kindE, if_pos rfl])
  obtain ⟨op, hop⟩ : ∃ op : Int, op = 1 := ⟨_, rfl⟩
  rw [← hop] at HQ ⊢
  have q1 : (op == 1) = true := by rw [hop]; rfl
  clear hop
  simp only [List.length_nil]
  have E0 := EB.new w op v rel col n s q 0 c 26
  have B0 : Below w.heap.size w (w.alloc (.cells (exCells op v rel col n s q 0 c).toArray 26)) := ext_alloc (ext_refl _) _
  obtain ⟨W, hW⟩ : ∃ W, W = w.alloc (.cells (exCells op v rel col n s q 0 c).toArray 26) := ⟨_, rfl⟩
  rw [← hW] at E0 B0
  go_enter Tryd.func59, Tryd.ntmps59
  go_upto_region 1 with fail
  rw [← hW]
  clear hW
  obtain ⟨g, hg⟩ : ∃ g, g = w.heap.size := ⟨_, rfl⟩
  have HB := Lib.hid B0
  have HGW := Lib.hid hg
  rw [← hg] at E0
  rw [← hg]
  clear B0 hg
  have HE := Lib.hid E0
  obtain ⟨lt, c0, c1, c2, c3, c4, c5, c6, c7, c8⟩ := E0
  go_wp2_with fail
  refine bodyPost_ret (v := .tuple #[.int .i64 v.k, .bool true]) (by simp [results, Tryd.results59, go_sem]) rfl ⟨by rw [HQ.out]; rfl, HB.out⟩

set_option maxHeartbeats 8000000 in
theorem rkind_col (v : Val) (n : Int) (s : ByteArray) (q : Option Addr) (c : Nat) (w : World) (cv pv : Value) (cols : List (List Int)) (ps : List Int) (hk : KM w cv pv cols ps) (r m : Nat) (ll : List Int) (k : Int) (h1 : cols[r]? = some ll) (h2 : ll[m]? = some k) : Calls Tryd.prog 59 #[.agg (exCells 2 v (r : Int) (m : Int) n s q ([] : List Ex).length c).toArray, cv, pv] w fun e w' => KindIs (kindE cols ps (.mk 2 v (r : Int) (m : Int) n s [])) e ∧ Below w.heap.size w w' := by
  have HQ := Lib.hid (show kindE cols ps (.mk 2 v (r : Int) (m : Int) n s []) = some k by rw [kindE, if_neg (by decide), if_pos (.inl rfl), leafK, if_pos rfl, Int.toNat_natCast, Int.toNat_natCast, h1]; exact h2)
  obtain ⟨op, hop⟩ : ∃ op : Int, op = 2 := ⟨_, rfl⟩
  rw [← hop] at HQ ⊢
  have q1 : (op == 1) = false := by rw [hop]; rfl
  have q2 : (op == 2) = true := by rw [hop]; rfl
  have HK := Lib.hid hk
  have H1 := Lib.hid h1
  have H2 := Lib.hid h2
  clear hop h1 h2
  obtain ⟨⟨cq, cc, rfl, hcc, hcm, -⟩, pq, pc, rfl, hpc, hpm, -⟩ := hk
  obtain ⟨rel, hrel⟩ : ∃ rel : Int, rel = (r : Int) := ⟨_, rfl⟩
  obtain ⟨col, hcol⟩ : ∃ col : Int, col = (m : Int) := ⟨_, rfl⟩
  rw [← hrel, ← hcol] at HQ ⊢
  have HREL := Lib.hid hrel
  have HCOL := Lib.hid hcol
  clear hrel hcol
  simp only [List.length_nil]
  have E0 := EB.new w op v rel col n s q 0 c 26
  have B0 : Below w.heap.size w (w.alloc (.cells (exCells op v rel col n s q 0 c).toArray 26)) := ext_alloc (ext_refl _) _
  obtain ⟨W, hW⟩ : ∃ W, W = w.alloc (.cells (exCells op v rel col n s q 0 c).toArray 26) := ⟨_, rfl⟩
  rw [← hW] at E0 B0
  go_enter Tryd.func59, Tryd.ntmps59
  go_upto_region 1 with fail
  rw [← hW]
  clear hW
  obtain ⟨g, hg⟩ : ∃ g, g = w.heap.size := ⟨_, rfl⟩
  have HB := Lib.hid B0
  have HGW := Lib.hid hg
  rw [← hg] at E0
  rw [← hg]
  clear B0 hg
  have HE := Lib.hid E0
  obtain ⟨lt, c0, c1, c2, c3, c4, c5, c6, c7, c8⟩ := E0
  have hrel := HREL.out
  have hcol := HCOL.out
  clear HREL HCOL
  subst hrel hcol
  have hlt : r < cols.length := (List.getElem?_eq_some_iff.1 H1.out).1
  have hlt2 : m < ll.length := (List.getElem?_eq_some_iff.1 H2.out).1
  obtain ⟨⟨_, _, hsl, _, _, hP⟩, -⟩ := HK.out.on HB.out
  obtain ⟨rfl, -, rfl⟩ : cq = _ ∧ True ∧ cc = _ := by injection hsl with h1 _ h3; exact ⟨h1, trivial, h3⟩
  clear hsl
  obtain ⟨gp, offp, hq, _, hgp, hcell⟩ := ArrA.at_ hP hlt
  subst hq
  have hll : cols[r] = ll := by have := H1.out; rw [List.getElem?_eq_getElem hlt] at this; exact Option.some.inj this
  rw [hll] at hcell
  obtain ⟨lq, lc, hcell, hlc, hlm, hL⟩ := hcell
  rw [Nat.mul_one] at hcell
  obtain ⟨gl, offl, hq, _, hgl, hc2⟩ := ArrA.at_ hL hlt2
  subst hq
  have hkk : ll[m] = k := by have := H2.out; rw [List.getElem?_eq_getElem hlt2] at this; exact Option.some.inj this
  rw [hkk] at hc2
  unfold intC at hc2
  rw [Nat.mul_one] at hc2
  clear hll hkk hP hL HK H1 H2
  go_wp2_with fail
  go_big_quiet (fail)
  go_wp2_with fail
  refine bodyPost_ret (v := .tuple #[.int .i64 k, .bool true]) (by simp [results, Tryd.results59, go_sem]) rfl ⟨by rw [HQ.out]; rfl, by have := HB.out; (repeat (first | exact ext_refl _ | assumption | (refine ext_alloc ?_ _) | (refine ext_drewN ?_ _) | refine ext_drew ?_ | (refine ext_set (by first | (simp; done) | (simp; omega)) _ ?_) | (refine ext_trans ?_ (by assumption))))⟩

set_option maxHeartbeats 8000000 in
theorem rkind_param (v : Val) (rel col : Int) (s : ByteArray) (q : Option Addr) (c : Nat) (w : World) (cv pv : Value) (cols : List (List Int)) (ps : List Int) (hk : KM w cv pv cols ps) (m : Nat) (hm4 : m < 4) (k : Int) (h2 : ps[m]? = some k) : Calls Tryd.prog 59 #[.agg (exCells 3 v rel col ((m : Int) + 1) s q ([] : List Ex).length c).toArray, cv, pv] w fun e w' => KindIs (kindE cols ps (.mk 3 v rel col ((m : Int) + 1) s [])) e ∧ Below w.heap.size w w' := by
  have HQ := Lib.hid (show kindE cols ps (.mk 3 v rel col ((m : Int) + 1) s []) = some k by rw [kindE, if_neg (by decide), if_pos (.inr rfl), leafK, if_neg (by decide), if_pos rfl, show ((m : Int) + 1 - 1).toNat = m by omega]; exact h2)
  obtain ⟨op, hop⟩ : ∃ op : Int, op = 3 := ⟨_, rfl⟩
  rw [← hop] at HQ ⊢
  have q1 : (op == 1) = false := by rw [hop]; rfl
  have q2 : (op == 2) = false := by rw [hop]; rfl
  have q3 : (op == 3) = true := by rw [hop]; rfl
  have HK := Lib.hid hk
  have H2 := Lib.hid h2
  clear hop h2
  obtain ⟨⟨cq, cc, rfl, hcc, hcm, -⟩, pq, pc, rfl, hpc, hpm, -⟩ := hk
  obtain ⟨n, hn⟩ : ∃ n : Int, n = (m : Int) + 1 := ⟨_, rfl⟩
  rw [← hn] at HQ ⊢
  have HN := Lib.hid hn
  clear hn
  simp only [List.length_nil]
  have E0 := EB.new w op v rel col n s q 0 c 26
  have B0 : Below w.heap.size w (w.alloc (.cells (exCells op v rel col n s q 0 c).toArray 26)) := ext_alloc (ext_refl _) _
  obtain ⟨W, hW⟩ : ∃ W, W = w.alloc (.cells (exCells op v rel col n s q 0 c).toArray 26) := ⟨_, rfl⟩
  rw [← hW] at E0 B0
  go_enter Tryd.func59, Tryd.ntmps59
  go_upto_region 1 with fail
  rw [← hW]
  clear hW
  obtain ⟨g, hg⟩ : ∃ g, g = w.heap.size := ⟨_, rfl⟩
  have HB := Lib.hid B0
  have HGW := Lib.hid hg
  rw [← hg] at E0
  rw [← hg]
  clear B0 hg
  have HE := Lib.hid E0
  obtain ⟨lt, c0, c1, c2, c3, c4, c5, c6, c7, c8⟩ := E0
  have hn := HN.out
  clear HN
  subst hn
  have hlt2 : m < ps.length := (List.getElem?_eq_some_iff.1 H2.out).1
  obtain ⟨-, _, _, hsl, _, _, hL⟩ := HK.out.on HB.out
  obtain ⟨rfl, -, rfl⟩ : pq = _ ∧ True ∧ pc = _ := by injection hsl with h1 _ h3; exact ⟨h1, trivial, h3⟩
  clear hsl
  obtain ⟨gl, offl, hq, _, hgl, hc2⟩ := ArrA.at_ hL hlt2
  subst hq
  have hkk : ps[m] = k := by have := H2.out; rw [List.getElem?_eq_getElem hlt2] at this; exact Option.some.inj this
  rw [hkk] at hc2
  unfold intC at hc2
  rw [Nat.mul_one] at hc2
  have hw : wrap64 ((m : Int) + 1 - 1) = (m : Int) := by unfold wrap64; omega
  have hw3 : wrap64 (m : Int) = (m : Int) := by unfold wrap64; omega
  have hm1 : (m : Int) + 1 - 1 = (m : Int) := by omega
  clear hkk hL HK H2
  go_wp2_with fail
  refine bodyPost_ret (v := .tuple #[.int .i64 k, .bool true]) (by simp [results, Tryd.results59, go_sem]) rfl ⟨by rw [HQ.out]; rfl, HB.out⟩

set_option maxHeartbeats 16000000 in
theorem rkind_one_arith (op : Int) (v : Val) (rel col n : Int) (s : ByteArray) (y0 : Ex) (q : Option Addr) (c : Nat) (w : World) (cv pv : Value) (cols : List (List Int)) (ps : List Int) (hk : KM w cv pv cols ps) (h1 : 4 ≤ op) (h2 : op ≤ 8) (hl : ExL w q 0 [y0]) (IHy0 : ∀ (cs : List Value) (w : World), ExM w y0 cs → KM w cv pv cols ps → Calls Tryd.prog 59 #[.agg cs.toArray, cv, pv] w fun e w' => KindIs (kindE cols ps y0) e ∧ Below w.heap.size w w') : Calls Tryd.prog 59 #[.agg (exCells op v rel col n s q ([y0] : List Ex).length c).toArray, cv, pv] w fun e w' => KindIs (kindE cols ps (.mk op v rel col n s [y0])) e ∧ Below w.heap.size w w' := by
  have HQ := Lib.hid (kind_op (cols := cols) (ps := ps) (v := v) (rel := rel) (col := col) (n := n) (s := s) (l := [y0]) (show 4 ≤ op by omega))
  have q1 : (op == 1) = false := by rw [beq_eq_false_iff_ne]; omega
  have q2 : (op == 2) = false := by rw [beq_eq_false_iff_ne]; omega
  have q3 : (op == 3) = false := by rw [beq_eq_false_iff_ne]; omega
  have q18 : (op == 18) = false := by first | (rw [beq_eq_false_iff_ne]; omega) | (rw [beq_iff_eq]; omega)
  have d8 : op ≤ 8 := h2
  have HS := Lib.hid (fun l => show suitK op l = l.all (fun k => k == 1 || k == 0) by unfold suitK; rw [if_pos h2])
  have HYI := Lib.hid (show yieldsK op = 1 by unfold yieldsK; rw [if_pos h2])
  clear h1 h2
  have HK := Lib.hid hk
  have HL := Lib.hid hl
  have HIy0 := Lib.hid IHy0
  clear IHy0
  clear hl
  obtain ⟨⟨cq, cc, rfl, hcc, hcm, -⟩, pq, pc, rfl, hpc, hpm, -⟩ := hk
  simp only [List.length_cons, List.length_nil, Nat.zero_add]
  have E0 := EB.new w op v rel col n s q 1 c 26
  have B0 : Below w.heap.size w (w.alloc (.cells (exCells op v rel col n s q 1 c).toArray 26)) := ext_alloc (ext_refl _) _
  obtain ⟨W, hW⟩ : ∃ W, W = w.alloc (.cells (exCells op v rel col n s q 1 c).toArray 26) := ⟨_, rfl⟩
  rw [← hW] at E0 B0
  go_enter Tryd.func59, Tryd.ntmps59
  go_upto_region 1 with fail
  rw [← hW]
  clear hW
  obtain ⟨g, hg⟩ : ∃ g, g = w.heap.size := ⟨_, rfl⟩
  have HB := Lib.hid B0
  have HGW := Lib.hid hg
  rw [← hg] at E0
  rw [← hg]
  clear B0 hg
  have HE := Lib.hid E0
  obtain ⟨lt, c0, c1, c2, c3, c4, c5, c6, c7, c8⟩ := E0
  have hl_0 := ExL.ext HB.out _ _ _ HL.out
  have HLW := Lib.hid hl_0
  have HKW := Lib.hid (HK.out.on HB.out)
  clear hl_0
  have hl_ := ExL.at_ (j := 0) (x := y0) HLW.out rfl
  obtain ⟨g0, off0, cs0, hq0, hg0, hx0, hcell⟩ := hl_
  subst hq0
  have HX0 := Lib.hid hx0
  obtain ⟨op1, v1, rel1, col1, n1, s1, l1⟩ := y0
  rw [ExM.iff] at hx0
  obtain ⟨-, qq0, cc0, rfl, -, -⟩ := hx0
  have f0 := hcell 0 _ rfl
  have f1 := hcell 1 _ rfl
  have f2 := hcell 2 _ rfl
  have f3 := hcell 3 _ rfl
  have f4 := hcell 4 _ rfl
  have f5 := hcell 5 _ rfl
  have f6 := hcell 6 _ rfl
  have f7 := hcell 7 _ rfl
  have f8 := hcell 8 _ rfl
  simp only [Nat.zero_mul, Nat.add_zero] at f0 f1 f2 f3 f4 f5 f6 f7 f8
  clear hcell
  go_wp2_with fail
  refine wp_loop_rounds 2 ?_
  rw [rounds_succ]
  go_wp2_with fail
  refine (HIy0.out _ _ HX0.out HKW.out).mono ?_
  rintro e Y ⟨he, hb⟩
  have HBY := Lib.hid (HB.out.trans (hb.mono HB.out.size))
  have EY := HE.out.on hb
  have HEY := Lib.hid EY
  have HLY := Lib.hid (ExL.ext hb _ _ _ HLW.out)
  have HKY := Lib.hid (HKW.out.on hb)
  clear f0 f1 f2 f3 f4 f5 f6 f7 f8
  clear lt c0 c1 c2 c3 c4 c5 c6 c7 c8
  clear hb
  obtain ⟨lt, c0, c1, c2, c3, c4, c5, c6, c7, c8⟩ := EY
  cases hk0 : kindE cols ps (Ex.mk op1 v1 rel1 col1 n1 s1 l1) with
  | none =>
    rw [hk0] at he
    obtain ⟨kk, rfl⟩ := he
    go_wp2_with fail
    refine bodyPost_ret (v := .tuple #[.int .i64 0, .bool false]) (by simp [results, Tryd.results59, go_sem]) rfl ⟨by rw [HQ.out, kindL, hk0]; exact ⟨_, rfl⟩, HBY.out⟩
  | some k0 =>
    rw [hk0] at he
    have HK0 := Lib.hid hk0
    clear hk0
    simp only [KindIs] at he
    subst he
    go_wp2_with (at_builtin; refine wp_append_flat rfl _ _ 39 3 rfl Tryd.underlying39 (.int .i64 0) 8 Tryd.infoInt8 rfl (by decide) iCell_len iCell_one Y.heap.size _ [] rfl (OwnF.nil _ _ _) _ 1 1 [k0] rfl rfl 0 _ (one_block iCell_len 3 #[.int .i64 k0] k0 rfl _ rfl) ?ka0 ?kb0 ?kc0 ?_)
    case ka0 => simp [maxLen]
    case kb0 => simp
    case kc0 => simp
    intro vv N HOa hba hoa
    have hbN := (ext_alloc (ext_refl Y) (.cells #[.int .i64 k0] 3)).trans hba
    have HBN := Lib.hid (HBY.out.trans (hbN.mono HBY.out.size))
    have EN := HEY.out.on hbN
    obtain ⟨q1_, c1_, rfl, hc1_, hm1_, hr1_⟩ := OwnK.read HOa
    obtain ⟨gN, rfl, hg1_, hz1⟩ := hr1_ 0 k0 rfl
    clear hr1_ HOa hba hoa hbN lt c0 c1 c2 c3 c4 c5 c6 c7 c8
    obtain ⟨lt, c0, c1, c2, c3, c4, c5, c6, c7, c8⟩ := EN
    simp only [List.length_cons, List.length_nil, Nat.zero_add] at hc1_ hm1_ ⊢
    go_wp2_with fail
    rw [rounds_succ]
    go_wp2_with fail
    refine wp_loop_rounds 2 ?_
    rw [rounds_succ]
    cases e0a : k0 == 1 with
    | true =>
      have n0a : (k0 != 1) = false := by rw [bne, e0a]; rfl
      go_wp2_with fail
      rw [rounds_succ]
      go_wp2_with fail
      refine bodyPost_ret (v := .tuple #[.int .i64 1, .bool true]) (by simp [results, Tryd.results59, go_sem]) rfl ⟨by rw [HQ.out, kindL, HK0.out, kindL]; simp only; rw [HS.out, HYI.out]; simp only [List.all_cons, List.all_nil, e0a]; rfl, HBN.out⟩
    | false =>
      have n0a : (k0 != 1) = true := by rw [bne, e0a]; rfl
      cases e0b : k0 == 0 with
      | true =>
        have n0b : (k0 != 0) = false := by rw [bne, e0b]; rfl
        go_wp2_with fail
        rw [rounds_succ]
        go_wp2_with fail
        refine bodyPost_ret (v := .tuple #[.int .i64 1, .bool true]) (by simp [results, Tryd.results59, go_sem]) rfl ⟨by rw [HQ.out, kindL, HK0.out, kindL]; simp only; rw [HS.out, HYI.out]; simp only [List.all_cons, List.all_nil, e0a, e0b]; rfl, HBN.out⟩
      | false =>
        have n0b : (k0 != 0) = true := by rw [bne, e0b]; rfl
        go_wp2_with fail
        refine bodyPost_ret (v := .tuple #[.int .i64 0, .bool false]) (by simp [results, Tryd.results59, go_sem]) rfl ⟨by rw [HQ.out, kindL, HK0.out, kindL]; simp only; rw [HS.out, HYI.out]; simp only [List.all_cons, List.all_nil, e0a, e0b]; exact ⟨_, rfl⟩, HBN.out⟩

set_option maxHeartbeats 16000000 in
theorem rkind_one_logic (op : Int) (v : Val) (rel col n : Int) (s : ByteArray) (y0 : Ex) (q : Option Addr) (c : Nat) (w : World) (cv pv : Value) (cols : List (List Int)) (ps : List Int) (hk : KM w cv pv cols ps) (h1 : 15 ≤ op) (h2 : op ≤ 17) (hl : ExL w q 0 [y0]) (IHy0 : ∀ (cs : List Value) (w : World), ExM w y0 cs → KM w cv pv cols ps → Calls Tryd.prog 59 #[.agg cs.toArray, cv, pv] w fun e w' => KindIs (kindE cols ps y0) e ∧ Below w.heap.size w w') : Calls Tryd.prog 59 #[.agg (exCells op v rel col n s q ([y0] : List Ex).length c).toArray, cv, pv] w fun e w' => KindIs (kindE cols ps (.mk op v rel col n s [y0])) e ∧ Below w.heap.size w w' := by
  have HQ := Lib.hid (kind_op (cols := cols) (ps := ps) (v := v) (rel := rel) (col := col) (n := n) (s := s) (l := [y0]) (show 4 ≤ op by omega))
  have q1 : (op == 1) = false := by rw [beq_eq_false_iff_ne]; omega
  have q2 : (op == 2) = false := by rw [beq_eq_false_iff_ne]; omega
  have q3 : (op == 3) = false := by rw [beq_eq_false_iff_ne]; omega
  have q18 : (op == 18) = false := by first | (rw [beq_eq_false_iff_ne]; omega) | (rw [beq_iff_eq]; omega)
  have d8 : ¬ op ≤ 8 := by omega
  have d14 : ¬ op ≤ 14 := by omega
  have HS := Lib.hid (fun l => show suitK op l = l.all (fun k => k == 2 || k == 0) by unfold suitK; rw [if_neg (by omega), if_neg (by omega), if_neg (by omega)])
  have HYI := Lib.hid (show yieldsK op = 2 by unfold yieldsK; rw [if_neg (by omega)])
  clear h1 h2
  have HK := Lib.hid hk
  have HL := Lib.hid hl
  have HIy0 := Lib.hid IHy0
  clear IHy0
  clear hl
  obtain ⟨⟨cq, cc, rfl, hcc, hcm, -⟩, pq, pc, rfl, hpc, hpm, -⟩ := hk
  simp only [List.length_cons, List.length_nil, Nat.zero_add]
  have E0 := EB.new w op v rel col n s q 1 c 26
  have B0 : Below w.heap.size w (w.alloc (.cells (exCells op v rel col n s q 1 c).toArray 26)) := ext_alloc (ext_refl _) _
  obtain ⟨W, hW⟩ : ∃ W, W = w.alloc (.cells (exCells op v rel col n s q 1 c).toArray 26) := ⟨_, rfl⟩
  rw [← hW] at E0 B0
  go_enter Tryd.func59, Tryd.ntmps59
  go_upto_region 1 with fail
  rw [← hW]
  clear hW
  obtain ⟨g, hg⟩ : ∃ g, g = w.heap.size := ⟨_, rfl⟩
  have HB := Lib.hid B0
  have HGW := Lib.hid hg
  rw [← hg] at E0
  rw [← hg]
  clear B0 hg
  have HE := Lib.hid E0
  obtain ⟨lt, c0, c1, c2, c3, c4, c5, c6, c7, c8⟩ := E0
  have hl_0 := ExL.ext HB.out _ _ _ HL.out
  have HLW := Lib.hid hl_0
  have HKW := Lib.hid (HK.out.on HB.out)
  clear hl_0
  have hl_ := ExL.at_ (j := 0) (x := y0) HLW.out rfl
  obtain ⟨g0, off0, cs0, hq0, hg0, hx0, hcell⟩ := hl_
  subst hq0
  have HX0 := Lib.hid hx0
  obtain ⟨op1, v1, rel1, col1, n1, s1, l1⟩ := y0
  rw [ExM.iff] at hx0
  obtain ⟨-, qq0, cc0, rfl, -, -⟩ := hx0
  have f0 := hcell 0 _ rfl
  have f1 := hcell 1 _ rfl
  have f2 := hcell 2 _ rfl
  have f3 := hcell 3 _ rfl
  have f4 := hcell 4 _ rfl
  have f5 := hcell 5 _ rfl
  have f6 := hcell 6 _ rfl
  have f7 := hcell 7 _ rfl
  have f8 := hcell 8 _ rfl
  simp only [Nat.zero_mul, Nat.add_zero] at f0 f1 f2 f3 f4 f5 f6 f7 f8
  clear hcell
  go_wp2_with fail
  refine wp_loop_rounds 2 ?_
  rw [rounds_succ]
  go_wp2_with fail
  refine (HIy0.out _ _ HX0.out HKW.out).mono ?_
  rintro e Y ⟨he, hb⟩
  have HBY := Lib.hid (HB.out.trans (hb.mono HB.out.size))
  have EY := HE.out.on hb
  have HEY := Lib.hid EY
  have HLY := Lib.hid (ExL.ext hb _ _ _ HLW.out)
  have HKY := Lib.hid (HKW.out.on hb)
  clear f0 f1 f2 f3 f4 f5 f6 f7 f8
  clear lt c0 c1 c2 c3 c4 c5 c6 c7 c8
  clear hb
  obtain ⟨lt, c0, c1, c2, c3, c4, c5, c6, c7, c8⟩ := EY
  cases hk0 : kindE cols ps (Ex.mk op1 v1 rel1 col1 n1 s1 l1) with
  | none =>
    rw [hk0] at he
    obtain ⟨kk, rfl⟩ := he
    go_wp2_with fail
    refine bodyPost_ret (v := .tuple #[.int .i64 0, .bool false]) (by simp [results, Tryd.results59, go_sem]) rfl ⟨by rw [HQ.out, kindL, hk0]; exact ⟨_, rfl⟩, HBY.out⟩
  | some k0 =>
    rw [hk0] at he
    have HK0 := Lib.hid hk0
    clear hk0
    simp only [KindIs] at he
    subst he
    go_wp2_with (at_builtin; refine wp_append_flat rfl _ _ 39 3 rfl Tryd.underlying39 (.int .i64 0) 8 Tryd.infoInt8 rfl (by decide) iCell_len iCell_one Y.heap.size _ [] rfl (OwnF.nil _ _ _) _ 1 1 [k0] rfl rfl 0 _ (one_block iCell_len 3 #[.int .i64 k0] k0 rfl _ rfl) ?ka0 ?kb0 ?kc0 ?_)
    case ka0 => simp [maxLen]
    case kb0 => simp
    case kc0 => simp
    intro vv N HOa hba hoa
    have hbN := (ext_alloc (ext_refl Y) (.cells #[.int .i64 k0] 3)).trans hba
    have HBN := Lib.hid (HBY.out.trans (hbN.mono HBY.out.size))
    have EN := HEY.out.on hbN
    obtain ⟨q1_, c1_, rfl, hc1_, hm1_, hr1_⟩ := OwnK.read HOa
    obtain ⟨gN, rfl, hg1_, hz1⟩ := hr1_ 0 k0 rfl
    clear hr1_ HOa hba hoa hbN lt c0 c1 c2 c3 c4 c5 c6 c7 c8
    obtain ⟨lt, c0, c1, c2, c3, c4, c5, c6, c7, c8⟩ := EN
    simp only [List.length_cons, List.length_nil, Nat.zero_add] at hc1_ hm1_ ⊢
    go_wp2_with fail
    rw [rounds_succ]
    go_wp2_with fail
    refine wp_loop_rounds 2 ?_
    rw [rounds_succ]
    cases e0a : k0 == 2 with
    | true =>
      have n0a : (k0 != 2) = false := by rw [bne, e0a]; rfl
      go_wp2_with fail
      rw [rounds_succ]
      go_wp2_with fail
      refine bodyPost_ret (v := .tuple #[.int .i64 2, .bool true]) (by simp [results, Tryd.results59, go_sem]) rfl ⟨by rw [HQ.out, kindL, HK0.out, kindL]; simp only; rw [HS.out, HYI.out]; simp only [List.all_cons, List.all_nil, e0a]; rfl, HBN.out⟩
    | false =>
      have n0a : (k0 != 2) = true := by rw [bne, e0a]; rfl
      cases e0b : k0 == 0 with
      | true =>
        have n0b : (k0 != 0) = false := by rw [bne, e0b]; rfl
        go_wp2_with fail
        rw [rounds_succ]
        go_wp2_with fail
        refine bodyPost_ret (v := .tuple #[.int .i64 2, .bool true]) (by simp [results, Tryd.results59, go_sem]) rfl ⟨by rw [HQ.out, kindL, HK0.out, kindL]; simp only; rw [HS.out, HYI.out]; simp only [List.all_cons, List.all_nil, e0a, e0b]; rfl, HBN.out⟩
      | false =>
        have n0b : (k0 != 0) = true := by rw [bne, e0b]; rfl
        go_wp2_with fail
        refine bodyPost_ret (v := .tuple #[.int .i64 0, .bool false]) (by simp [results, Tryd.results59, go_sem]) rfl ⟨by rw [HQ.out, kindL, HK0.out, kindL]; simp only; rw [HS.out, HYI.out]; simp only [List.all_cons, List.all_nil, e0a, e0b]; exact ⟨_, rfl⟩, HBN.out⟩

set_option maxHeartbeats 16000000 in
theorem rkind_one_is (op : Int) (v : Val) (rel col n : Int) (s : ByteArray) (y0 : Ex) (q : Option Addr) (c : Nat) (w : World) (cv pv : Value) (cols : List (List Int)) (ps : List Int) (hk : KM w cv pv cols ps) (h1 : op = 18) (hl : ExL w q 0 [y0]) (IHy0 : ∀ (cs : List Value) (w : World), ExM w y0 cs → KM w cv pv cols ps → Calls Tryd.prog 59 #[.agg cs.toArray, cv, pv] w fun e w' => KindIs (kindE cols ps y0) e ∧ Below w.heap.size w w') : Calls Tryd.prog 59 #[.agg (exCells op v rel col n s q ([y0] : List Ex).length c).toArray, cv, pv] w fun e w' => KindIs (kindE cols ps (.mk op v rel col n s [y0])) e ∧ Below w.heap.size w w' := by
  have HQ := Lib.hid (kind_op (cols := cols) (ps := ps) (v := v) (rel := rel) (col := col) (n := n) (s := s) (l := [y0]) (show 4 ≤ op by omega))
  have q1 : (op == 1) = false := by rw [beq_eq_false_iff_ne]; omega
  have q2 : (op == 2) = false := by rw [beq_eq_false_iff_ne]; omega
  have q3 : (op == 3) = false := by rw [beq_eq_false_iff_ne]; omega
  have q18 : (op == 18) = true := by first | (rw [beq_eq_false_iff_ne]; omega) | (rw [beq_iff_eq]; omega)
  have d8 : ¬ op ≤ 8 := by omega
  have d14 : ¬ op ≤ 14 := by omega
  have HS := Lib.hid (fun l => show suitK op l = true by unfold suitK; rw [if_neg (by omega), if_neg (by omega), if_pos h1])
  have HYI := Lib.hid (show yieldsK op = 2 by unfold yieldsK; rw [if_neg (by omega)])
  clear h1
  have HK := Lib.hid hk
  have HL := Lib.hid hl
  have HIy0 := Lib.hid IHy0
  clear IHy0
  clear hl
  obtain ⟨⟨cq, cc, rfl, hcc, hcm, -⟩, pq, pc, rfl, hpc, hpm, -⟩ := hk
  simp only [List.length_cons, List.length_nil, Nat.zero_add]
  have E0 := EB.new w op v rel col n s q 1 c 26
  have B0 : Below w.heap.size w (w.alloc (.cells (exCells op v rel col n s q 1 c).toArray 26)) := ext_alloc (ext_refl _) _
  obtain ⟨W, hW⟩ : ∃ W, W = w.alloc (.cells (exCells op v rel col n s q 1 c).toArray 26) := ⟨_, rfl⟩
  rw [← hW] at E0 B0
  go_enter Tryd.func59, Tryd.ntmps59
  go_upto_region 1 with fail
  rw [← hW]
  clear hW
  obtain ⟨g, hg⟩ : ∃ g, g = w.heap.size := ⟨_, rfl⟩
  have HB := Lib.hid B0
  have HGW := Lib.hid hg
  rw [← hg] at E0
  rw [← hg]
  clear B0 hg
  have HE := Lib.hid E0
  obtain ⟨lt, c0, c1, c2, c3, c4, c5, c6, c7, c8⟩ := E0
  have hl_0 := ExL.ext HB.out _ _ _ HL.out
  have HLW := Lib.hid hl_0
  have HKW := Lib.hid (HK.out.on HB.out)
  clear hl_0
  have hl_ := ExL.at_ (j := 0) (x := y0) HLW.out rfl
  obtain ⟨g0, off0, cs0, hq0, hg0, hx0, hcell⟩ := hl_
  subst hq0
  have HX0 := Lib.hid hx0
  obtain ⟨op1, v1, rel1, col1, n1, s1, l1⟩ := y0
  rw [ExM.iff] at hx0
  obtain ⟨-, qq0, cc0, rfl, -, -⟩ := hx0
  have f0 := hcell 0 _ rfl
  have f1 := hcell 1 _ rfl
  have f2 := hcell 2 _ rfl
  have f3 := hcell 3 _ rfl
  have f4 := hcell 4 _ rfl
  have f5 := hcell 5 _ rfl
  have f6 := hcell 6 _ rfl
  have f7 := hcell 7 _ rfl
  have f8 := hcell 8 _ rfl
  simp only [Nat.zero_mul, Nat.add_zero] at f0 f1 f2 f3 f4 f5 f6 f7 f8
  clear hcell
  go_wp2_with fail
  refine wp_loop_rounds 2 ?_
  rw [rounds_succ]
  go_wp2_with fail
  refine (HIy0.out _ _ HX0.out HKW.out).mono ?_
  rintro e Y ⟨he, hb⟩
  have HBY := Lib.hid (HB.out.trans (hb.mono HB.out.size))
  have EY := HE.out.on hb
  have HEY := Lib.hid EY
  have HLY := Lib.hid (ExL.ext hb _ _ _ HLW.out)
  have HKY := Lib.hid (HKW.out.on hb)
  clear f0 f1 f2 f3 f4 f5 f6 f7 f8
  clear lt c0 c1 c2 c3 c4 c5 c6 c7 c8
  clear hb
  obtain ⟨lt, c0, c1, c2, c3, c4, c5, c6, c7, c8⟩ := EY
  cases hk0 : kindE cols ps (Ex.mk op1 v1 rel1 col1 n1 s1 l1) with
  | none =>
    rw [hk0] at he
    obtain ⟨kk, rfl⟩ := he
    go_wp2_with fail
    refine bodyPost_ret (v := .tuple #[.int .i64 0, .bool false]) (by simp [results, Tryd.results59, go_sem]) rfl ⟨by rw [HQ.out, kindL, hk0]; exact ⟨_, rfl⟩, HBY.out⟩
  | some k0 =>
    rw [hk0] at he
    have HK0 := Lib.hid hk0
    clear hk0
    simp only [KindIs] at he
    subst he
    go_wp2_with (at_builtin; refine wp_append_flat rfl _ _ 39 3 rfl Tryd.underlying39 (.int .i64 0) 8 Tryd.infoInt8 rfl (by decide) iCell_len iCell_one Y.heap.size _ [] rfl (OwnF.nil _ _ _) _ 1 1 [k0] rfl rfl 0 _ (one_block iCell_len 3 #[.int .i64 k0] k0 rfl _ rfl) ?ka0 ?kb0 ?kc0 ?_)
    case ka0 => simp [maxLen]
    case kb0 => simp
    case kc0 => simp
    intro vv N HOa hba hoa
    have hbN := (ext_alloc (ext_refl Y) (.cells #[.int .i64 k0] 3)).trans hba
    have HBN := Lib.hid (HBY.out.trans (hbN.mono HBY.out.size))
    have EN := HEY.out.on hbN
    obtain ⟨q1_, c1_, rfl, hc1_, hm1_, hr1_⟩ := OwnK.read HOa
    obtain ⟨gN, rfl, hg1_, hz1⟩ := hr1_ 0 k0 rfl
    clear hr1_ HOa hba hoa hbN lt c0 c1 c2 c3 c4 c5 c6 c7 c8
    obtain ⟨lt, c0, c1, c2, c3, c4, c5, c6, c7, c8⟩ := EN
    simp only [List.length_cons, List.length_nil, Nat.zero_add] at hc1_ hm1_ ⊢
    go_wp2_with fail
    rw [rounds_succ]
    go_wp2_with fail
    refine bodyPost_ret (v := .tuple #[.int .i64 2, .bool true]) (by simp [results, Tryd.results59, go_sem]) rfl ⟨by rw [HQ.out, kindL, HK0.out, kindL]; simp only; rw [HS.out, HYI.out]; rfl, HBN.out⟩

set_option maxHeartbeats 16000000 in
theorem rkind_two_arith (op : Int) (v : Val) (rel col n : Int) (s : ByteArray) (y0 : Ex) (y1 : Ex) (q : Option Addr) (c : Nat) (w : World) (cv pv : Value) (cols : List (List Int)) (ps : List Int) (hk : KM w cv pv cols ps) (h1 : 4 ≤ op) (h2 : op ≤ 8) (hl : ExL w q 0 [y0, y1]) (IHy0 : ∀ (cs : List Value) (w : World), ExM w y0 cs → KM w cv pv cols ps → Calls Tryd.prog 59 #[.agg cs.toArray, cv, pv] w fun e w' => KindIs (kindE cols ps y0) e ∧ Below w.heap.size w w') (IHy1 : ∀ (cs : List Value) (w : World), ExM w y1 cs → KM w cv pv cols ps → Calls Tryd.prog 59 #[.agg cs.toArray, cv, pv] w fun e w' => KindIs (kindE cols ps y1) e ∧ Below w.heap.size w w') : Calls Tryd.prog 59 #[.agg (exCells op v rel col n s q ([y0, y1] : List Ex).length c).toArray, cv, pv] w fun e w' => KindIs (kindE cols ps (.mk op v rel col n s [y0, y1])) e ∧ Below w.heap.size w w' := by
  have HQ := Lib.hid (kind_op (cols := cols) (ps := ps) (v := v) (rel := rel) (col := col) (n := n) (s := s) (l := [y0, y1]) (show 4 ≤ op by omega))
  have q1 : (op == 1) = false := by rw [beq_eq_false_iff_ne]; omega
  have q2 : (op == 2) = false := by rw [beq_eq_false_iff_ne]; omega
  have q3 : (op == 3) = false := by rw [beq_eq_false_iff_ne]; omega
  have q18 : (op == 18) = false := by first | (rw [beq_eq_false_iff_ne]; omega) | (rw [beq_iff_eq]; omega)
  have d8 : op ≤ 8 := h2
  have HS := Lib.hid (fun l => show suitK op l = l.all (fun k => k == 1 || k == 0) by unfold suitK; rw [if_pos h2])
  have HYI := Lib.hid (show yieldsK op = 1 by unfold yieldsK; rw [if_pos h2])
  clear h1 h2
  have HK := Lib.hid hk
  have HL := Lib.hid hl
  have HIy0 := Lib.hid IHy0
  clear IHy0
  have HIy1 := Lib.hid IHy1
  clear IHy1
  clear hl
  obtain ⟨⟨cq, cc, rfl, hcc, hcm, -⟩, pq, pc, rfl, hpc, hpm, -⟩ := hk
  simp only [List.length_cons, List.length_nil, Nat.zero_add]
  have E0 := EB.new w op v rel col n s q 2 c 26
  have B0 : Below w.heap.size w (w.alloc (.cells (exCells op v rel col n s q 2 c).toArray 26)) := ext_alloc (ext_refl _) _
  obtain ⟨W, hW⟩ : ∃ W, W = w.alloc (.cells (exCells op v rel col n s q 2 c).toArray 26) := ⟨_, rfl⟩
  rw [← hW] at E0 B0
  go_enter Tryd.func59, Tryd.ntmps59
  go_upto_region 1 with fail
  rw [← hW]
  clear hW
  obtain ⟨g, hg⟩ : ∃ g, g = w.heap.size := ⟨_, rfl⟩
  have HB := Lib.hid B0
  have HGW := Lib.hid hg
  rw [← hg] at E0
  rw [← hg]
  clear B0 hg
  have HE := Lib.hid E0
  obtain ⟨lt, c0, c1, c2, c3, c4, c5, c6, c7, c8⟩ := E0
  have hl_0 := ExL.ext HB.out _ _ _ HL.out
  have HLW := Lib.hid hl_0
  have HKW := Lib.hid (HK.out.on HB.out)
  clear hl_0
  have hl_ := ExL.at_ (j := 0) (x := y0) HLW.out rfl
  obtain ⟨g0, off0, cs0, hq0, hg0, hx0, hcell⟩ := hl_
  subst hq0
  have HX0 := Lib.hid hx0
  obtain ⟨op1, v1, rel1, col1, n1, s1, l1⟩ := y0
  rw [ExM.iff] at hx0
  obtain ⟨-, qq0, cc0, rfl, -, -⟩ := hx0
  have f0 := hcell 0 _ rfl
  have f1 := hcell 1 _ rfl
  have f2 := hcell 2 _ rfl
  have f3 := hcell 3 _ rfl
  have f4 := hcell 4 _ rfl
  have f5 := hcell 5 _ rfl
  have f6 := hcell 6 _ rfl
  have f7 := hcell 7 _ rfl
  have f8 := hcell 8 _ rfl
  simp only [Nat.zero_mul, Nat.add_zero] at f0 f1 f2 f3 f4 f5 f6 f7 f8
  clear hcell
  go_wp2_with fail
  refine wp_loop_rounds 3 ?_
  rw [rounds_succ]
  go_wp2_with fail
  refine (HIy0.out _ _ HX0.out HKW.out).mono ?_
  rintro e Y ⟨he, hb⟩
  have HBY := Lib.hid (HB.out.trans (hb.mono HB.out.size))
  have EY := HE.out.on hb
  have HEY := Lib.hid EY
  have HLY := Lib.hid (ExL.ext hb _ _ _ HLW.out)
  have HKY := Lib.hid (HKW.out.on hb)
  clear f0 f1 f2 f3 f4 f5 f6 f7 f8
  clear lt c0 c1 c2 c3 c4 c5 c6 c7 c8
  clear hb
  obtain ⟨lt, c0, c1, c2, c3, c4, c5, c6, c7, c8⟩ := EY
  cases hk0 : kindE cols ps (Ex.mk op1 v1 rel1 col1 n1 s1 l1) with
  | none =>
    rw [hk0] at he
    obtain ⟨kk, rfl⟩ := he
    go_wp2_with fail
    refine bodyPost_ret (v := .tuple #[.int .i64 0, .bool false]) (by simp [results, Tryd.results59, go_sem]) rfl ⟨by rw [HQ.out, kindL, hk0]; exact ⟨_, rfl⟩, HBY.out⟩
  | some k0 =>
    rw [hk0] at he
    have HK0 := Lib.hid hk0
    clear hk0
    simp only [KindIs] at he
    subst he
    go_wp2_with (at_builtin; refine wp_append_flat rfl _ _ 39 3 rfl Tryd.underlying39 (.int .i64 0) 8 Tryd.infoInt8 rfl (by decide) iCell_len iCell_one Y.heap.size _ [] rfl (OwnF.nil _ _ _) _ 1 1 [k0] rfl rfl 0 _ (one_block iCell_len 3 #[.int .i64 k0] k0 rfl _ rfl) ?ka0 ?kb0 ?kc0 ?_)
    case ka0 => simp [maxLen]
    case kb0 => simp
    case kc0 => simp
    intro vv N HOa hba hoa
    have hbN := (ext_alloc (ext_refl Y) (.cells #[.int .i64 k0] 3)).trans hba
    have HBN := Lib.hid (HBY.out.trans (hbN.mono HBY.out.size))
    have EN := HEY.out.on hbN
    have HEN := Lib.hid EN
    have HLN := Lib.hid (ExL.ext hbN _ _ _ HLY.out)
    have HKN := Lib.hid (HKY.out.on hbN)
    have hbYN := Lib.hid hbN
    obtain ⟨q1_, c1_, rfl, hc1_, hm1_, hr1_⟩ := OwnK.read HOa
    obtain ⟨gN, rfl, hg1_, hz1⟩ := hr1_ 0 k0 rfl
    have HON := Lib.hid HOa
    clear hr1_ HOa hba hoa hbN lt c0 c1 c2 c3 c4 c5 c6 c7 c8
    obtain ⟨lt, c0, c1, c2, c3, c4, c5, c6, c7, c8⟩ := EN
    simp only [List.length_cons, List.length_nil, Nat.zero_add] at hc1_ hm1_ HON ⊢
    go_wp2_with fail
    have hl_ := ExL.at_ (j := 1) (x := y1) HLN.out rfl
    obtain ⟨g1, off1, cs1, hq1, hg1, hx1, hcell⟩ := hl_
    obtain ⟨rfl, rfl⟩ : g1 = g0 ∧ off1 = off0 := by cases hq1; exact ⟨rfl, rfl⟩
    clear hq1
    have HX1 := Lib.hid hx1
    obtain ⟨op2, v2, rel2, col2, n2, s2, l2⟩ := y1
    rw [ExM.iff] at hx1
    obtain ⟨-, qq1, cc1, rfl, -, -⟩ := hx1
    have f0 := hcell 0 _ rfl
    have f1 := hcell 1 _ rfl
    have f2 := hcell 2 _ rfl
    have f3 := hcell 3 _ rfl
    have f4 := hcell 4 _ rfl
    have f5 := hcell 5 _ rfl
    have f6 := hcell 6 _ rfl
    have f7 := hcell 7 _ rfl
    have f8 := hcell 8 _ rfl
    clear hcell
    rw [rounds_succ]
    go_wp2_with fail
    refine (HIy1.out _ _ HX1.out HKN.out).mono ?_
    rintro e Z ⟨he, hb⟩
    have HBZ := Lib.hid (HBN.out.trans (hb.mono HBN.out.size))
    have EZ := HEN.out.on hb
    have HEZ := Lib.hid EZ
    have HLZ := Lib.hid (ExL.ext hb _ _ _ HLN.out)
    have HKZ := Lib.hid (HKN.out.on hb)
    have HOZ := Lib.hid (HON.out.later hb)
    have hbYZ := Lib.hid (hbYN.out.trans (hb.mono hbYN.out.size))
    clear f0 f1 f2 f3 f4 f5 f6 f7 f8
    clear lt c0 c1 c2 c3 c4 c5 c6 c7 c8
    clear hg1_ hz1
    clear hb
    obtain ⟨lt, c0, c1, c2, c3, c4, c5, c6, c7, c8⟩ := EZ
    cases hk1 : kindE cols ps (Ex.mk op2 v2 rel2 col2 n2 s2 l2) with
    | none =>
      rw [hk1] at he
      obtain ⟨kk, rfl⟩ := he
      go_wp2_with fail
      refine bodyPost_ret (v := .tuple #[.int .i64 0, .bool false]) (by simp [results, Tryd.results59, go_sem]) rfl ⟨by rw [HQ.out, kindL, HK0.out, kindL, hk1]; exact ⟨_, rfl⟩, HBZ.out⟩
    | some k1 =>
      rw [hk1] at he
      have HK1 := Lib.hid hk1
      clear hk1
      simp only [KindIs] at he
      subst he
      go_wp2_with (at_builtin; refine wp_append_flat rfl _ _ 39 3 rfl Tryd.underlying39 (.int .i64 0) 8 Tryd.infoInt8 rfl (by decide) iCell_len iCell_one Y.heap.size _ [k0] rfl (HOZ.out.later (ext_alloc (ext_refl _) _)) _ 1 1 [k1] rfl rfl 0 _ (one_block iCell_len 3 #[.int .i64 k1] k1 rfl _ rfl) ?ka1 ?kb1 ?kc1 ?_)
      case ka1 => simp [maxLen]
      case kb1 => simp
      case kc1 => (have := hbYZ.out.size; simp; omega)
      intro vv M HOa hba hoa
      have hbM := hbYZ.out.trans (((ext_alloc (ext_refl Z) (.cells #[.int .i64 k1] 3)).mono hbYZ.out.size).trans hba)
      have HBM := Lib.hid (HBY.out.trans (hbM.mono HBY.out.size))
      have EM := HEY.out.on hbM
      obtain ⟨q2_, c2_, rfl, hc2_, hm2_, hr2_⟩ := OwnK.read HOa
      obtain ⟨gM, rfl, hg2_, hz0⟩ := hr2_ 0 k0 rfl
      obtain ⟨_, hqq, _, hz1⟩ := hr2_ 1 k1 rfl
      cases hqq
      clear hr2_ HOa hba hoa hbM lt c0 c1 c2 c3 c4 c5 c6 c7 c8
      obtain ⟨lt, c0, c1, c2, c3, c4, c5, c6, c7, c8⟩ := EM
      simp only [List.length_cons, List.length_nil, Nat.zero_add, Nat.reduceAdd] at hc2_ hm2_ ⊢
      go_wp2_with fail
      rw [rounds_succ]
      go_wp2_with fail
      refine wp_loop_rounds 3 ?_
      rw [rounds_succ]
      cases e0a : k0 == 1 with
      | true =>
        have n0a : (k0 != 1) = false := by rw [bne, e0a]; rfl
        go_wp2_with fail
        rw [rounds_succ]
        cases e1a : k1 == 1 with
        | true =>
          have n1a : (k1 != 1) = false := by rw [bne, e1a]; rfl
          go_wp2_with fail
          rw [rounds_succ]
          go_wp2_with fail
          refine bodyPost_ret (v := .tuple #[.int .i64 1, .bool true]) (by simp [results, Tryd.results59, go_sem]) rfl ⟨by rw [HQ.out, kindL, HK0.out, kindL, HK1.out, kindL]; simp only; rw [HS.out, HYI.out]; simp only [List.all_cons, List.all_nil, e0a, e1a]; rfl, HBM.out⟩
        | false =>
          have n1a : (k1 != 1) = true := by rw [bne, e1a]; rfl
          cases e1b : k1 == 0 with
          | true =>
            have n1b : (k1 != 0) = false := by rw [bne, e1b]; rfl
            go_wp2_with fail
            rw [rounds_succ]
            go_wp2_with fail
            refine bodyPost_ret (v := .tuple #[.int .i64 1, .bool true]) (by simp [results, Tryd.results59, go_sem]) rfl ⟨by rw [HQ.out, kindL, HK0.out, kindL, HK1.out, kindL]; simp only; rw [HS.out, HYI.out]; simp only [List.all_cons, List.all_nil, e0a, e1a, e1b]; rfl, HBM.out⟩
          | false =>
            have n1b : (k1 != 0) = true := by rw [bne, e1b]; rfl
            go_wp2_with fail
            refine bodyPost_ret (v := .tuple #[.int .i64 0, .bool false]) (by simp [results, Tryd.results59, go_sem]) rfl ⟨by rw [HQ.out, kindL, HK0.out, kindL, HK1.out, kindL]; simp only; rw [HS.out, HYI.out]; simp only [List.all_cons, List.all_nil, e0a, e1a, e1b]; exact ⟨_, rfl⟩, HBM.out⟩
      | false =>
        have n0a : (k0 != 1) = true := by rw [bne, e0a]; rfl
        cases e0b : k0 == 0 with
        | true =>
          have n0b : (k0 != 0) = false := by rw [bne, e0b]; rfl
          go_wp2_with fail
          rw [rounds_succ]
          cases e1a : k1 == 1 with
          | true =>
            have n1a : (k1 != 1) = false := by rw [bne, e1a]; rfl
            go_wp2_with fail
            rw [rounds_succ]
            go_wp2_with fail
            refine bodyPost_ret (v := .tuple #[.int .i64 1, .bool true]) (by simp [results, Tryd.results59, go_sem]) rfl ⟨by rw [HQ.out, kindL, HK0.out, kindL, HK1.out, kindL]; simp only; rw [HS.out, HYI.out]; simp only [List.all_cons, List.all_nil, e0a, e0b, e1a]; rfl, HBM.out⟩
          | false =>
            have n1a : (k1 != 1) = true := by rw [bne, e1a]; rfl
            cases e1b : k1 == 0 with
            | true =>
              have n1b : (k1 != 0) = false := by rw [bne, e1b]; rfl
              go_wp2_with fail
              rw [rounds_succ]
              go_wp2_with fail
              refine bodyPost_ret (v := .tuple #[.int .i64 1, .bool true]) (by simp [results, Tryd.results59, go_sem]) rfl ⟨by rw [HQ.out, kindL, HK0.out, kindL, HK1.out, kindL]; simp only; rw [HS.out, HYI.out]; simp only [List.all_cons, List.all_nil, e0a, e0b, e1a, e1b]; rfl, HBM.out⟩
            | false =>
              have n1b : (k1 != 0) = true := by rw [bne, e1b]; rfl
              go_wp2_with fail
              refine bodyPost_ret (v := .tuple #[.int .i64 0, .bool false]) (by simp [results, Tryd.results59, go_sem]) rfl ⟨by rw [HQ.out, kindL, HK0.out, kindL, HK1.out, kindL]; simp only; rw [HS.out, HYI.out]; simp only [List.all_cons, List.all_nil, e0a, e0b, e1a, e1b]; exact ⟨_, rfl⟩, HBM.out⟩
        | false =>
          have n0b : (k0 != 0) = true := by rw [bne, e0b]; rfl
          go_wp2_with fail
          refine bodyPost_ret (v := .tuple #[.int .i64 0, .bool false]) (by simp [results, Tryd.results59, go_sem]) rfl ⟨by rw [HQ.out, kindL, HK0.out, kindL, HK1.out, kindL]; simp only; rw [HS.out, HYI.out]; simp only [List.all_cons, List.all_nil, e0a, e0b]; exact ⟨_, rfl⟩, HBM.out⟩

set_option maxHeartbeats 16000000 in
theorem rkind_two_test (op : Int) (v : Val) (rel col n : Int) (s : ByteArray) (y0 : Ex) (y1 : Ex) (q : Option Addr) (c : Nat) (w : World) (cv pv : Value) (cols : List (List Int)) (ps : List Int) (hk : KM w cv pv cols ps) (h1 : 9 ≤ op) (h2 : op ≤ 14) (hl : ExL w q 0 [y0, y1]) (IHy0 : ∀ (cs : List Value) (w : World), ExM w y0 cs → KM w cv pv cols ps → Calls Tryd.prog 59 #[.agg cs.toArray, cv, pv] w fun e w' => KindIs (kindE cols ps y0) e ∧ Below w.heap.size w w') (IHy1 : ∀ (cs : List Value) (w : World), ExM w y1 cs → KM w cv pv cols ps → Calls Tryd.prog 59 #[.agg cs.toArray, cv, pv] w fun e w' => KindIs (kindE cols ps y1) e ∧ Below w.heap.size w w') : Calls Tryd.prog 59 #[.agg (exCells op v rel col n s q ([y0, y1] : List Ex).length c).toArray, cv, pv] w fun e w' => KindIs (kindE cols ps (.mk op v rel col n s [y0, y1])) e ∧ Below w.heap.size w w' := by
  have HQ := Lib.hid (kind_op (cols := cols) (ps := ps) (v := v) (rel := rel) (col := col) (n := n) (s := s) (l := [y0, y1]) (show 4 ≤ op by omega))
  have q1 : (op == 1) = false := by rw [beq_eq_false_iff_ne]; omega
  have q2 : (op == 2) = false := by rw [beq_eq_false_iff_ne]; omega
  have q3 : (op == 3) = false := by rw [beq_eq_false_iff_ne]; omega
  have q18 : (op == 18) = false := by first | (rw [beq_eq_false_iff_ne]; omega) | (rw [beq_iff_eq]; omega)
  have d8 : ¬ op ≤ 8 := by omega
  have d14 : op ≤ 14 := h2
  have HS := Lib.hid (fun l => show suitK op l = (l.getD 0 0 == l.getD 1 0 || l.getD 0 0 == 0 || l.getD 1 0 == 0) by unfold suitK; rw [if_neg (by omega), if_pos h2])
  have HYI := Lib.hid (show yieldsK op = 2 by unfold yieldsK; rw [if_neg (by omega)])
  clear h1 h2
  have HK := Lib.hid hk
  have HL := Lib.hid hl
  have HIy0 := Lib.hid IHy0
  clear IHy0
  have HIy1 := Lib.hid IHy1
  clear IHy1
  clear hl
  obtain ⟨⟨cq, cc, rfl, hcc, hcm, -⟩, pq, pc, rfl, hpc, hpm, -⟩ := hk
  simp only [List.length_cons, List.length_nil, Nat.zero_add]
  have E0 := EB.new w op v rel col n s q 2 c 26
  have B0 : Below w.heap.size w (w.alloc (.cells (exCells op v rel col n s q 2 c).toArray 26)) := ext_alloc (ext_refl _) _
  obtain ⟨W, hW⟩ : ∃ W, W = w.alloc (.cells (exCells op v rel col n s q 2 c).toArray 26) := ⟨_, rfl⟩
  rw [← hW] at E0 B0
  go_enter Tryd.func59, Tryd.ntmps59
  go_upto_region 1 with fail
  rw [← hW]
  clear hW
  obtain ⟨g, hg⟩ : ∃ g, g = w.heap.size := ⟨_, rfl⟩
  have HB := Lib.hid B0
  have HGW := Lib.hid hg
  rw [← hg] at E0
  rw [← hg]
  clear B0 hg
  have HE := Lib.hid E0
  obtain ⟨lt, c0, c1, c2, c3, c4, c5, c6, c7, c8⟩ := E0
  have hl_0 := ExL.ext HB.out _ _ _ HL.out
  have HLW := Lib.hid hl_0
  have HKW := Lib.hid (HK.out.on HB.out)
  clear hl_0
  have hl_ := ExL.at_ (j := 0) (x := y0) HLW.out rfl
  obtain ⟨g0, off0, cs0, hq0, hg0, hx0, hcell⟩ := hl_
  subst hq0
  have HX0 := Lib.hid hx0
  obtain ⟨op1, v1, rel1, col1, n1, s1, l1⟩ := y0
  rw [ExM.iff] at hx0
  obtain ⟨-, qq0, cc0, rfl, -, -⟩ := hx0
  have f0 := hcell 0 _ rfl
  have f1 := hcell 1 _ rfl
  have f2 := hcell 2 _ rfl
  have f3 := hcell 3 _ rfl
  have f4 := hcell 4 _ rfl
  have f5 := hcell 5 _ rfl
  have f6 := hcell 6 _ rfl
  have f7 := hcell 7 _ rfl
  have f8 := hcell 8 _ rfl
  simp only [Nat.zero_mul, Nat.add_zero] at f0 f1 f2 f3 f4 f5 f6 f7 f8
  clear hcell
  go_wp2_with fail
  refine wp_loop_rounds 3 ?_
  rw [rounds_succ]
  go_wp2_with fail
  refine (HIy0.out _ _ HX0.out HKW.out).mono ?_
  rintro e Y ⟨he, hb⟩
  have HBY := Lib.hid (HB.out.trans (hb.mono HB.out.size))
  have EY := HE.out.on hb
  have HEY := Lib.hid EY
  have HLY := Lib.hid (ExL.ext hb _ _ _ HLW.out)
  have HKY := Lib.hid (HKW.out.on hb)
  clear f0 f1 f2 f3 f4 f5 f6 f7 f8
  clear lt c0 c1 c2 c3 c4 c5 c6 c7 c8
  clear hb
  obtain ⟨lt, c0, c1, c2, c3, c4, c5, c6, c7, c8⟩ := EY
  cases hk0 : kindE cols ps (Ex.mk op1 v1 rel1 col1 n1 s1 l1) with
  | none =>
    rw [hk0] at he
    obtain ⟨kk, rfl⟩ := he
    go_wp2_with fail
    refine bodyPost_ret (v := .tuple #[.int .i64 0, .bool false]) (by simp [results, Tryd.results59, go_sem]) rfl ⟨by rw [HQ.out, kindL, hk0]; exact ⟨_, rfl⟩, HBY.out⟩
  | some k0 =>
    rw [hk0] at he
    have HK0 := Lib.hid hk0
    clear hk0
    simp only [KindIs] at he
    subst he
    go_wp2_with (at_builtin; refine wp_append_flat rfl _ _ 39 3 rfl Tryd.underlying39 (.int .i64 0) 8 Tryd.infoInt8 rfl (by decide) iCell_len iCell_one Y.heap.size _ [] rfl (OwnF.nil _ _ _) _ 1 1 [k0] rfl rfl 0 _ (one_block iCell_len 3 #[.int .i64 k0] k0 rfl _ rfl) ?ka0 ?kb0 ?kc0 ?_)
    case ka0 => simp [maxLen]
    case kb0 => simp
    case kc0 => simp
    intro vv N HOa hba hoa
    have hbN := (ext_alloc (ext_refl Y) (.cells #[.int .i64 k0] 3)).trans hba
    have HBN := Lib.hid (HBY.out.trans (hbN.mono HBY.out.size))
    have EN := HEY.out.on hbN
    have HEN := Lib.hid EN
    have HLN := Lib.hid (ExL.ext hbN _ _ _ HLY.out)
    have HKN := Lib.hid (HKY.out.on hbN)
    have hbYN := Lib.hid hbN
    obtain ⟨q1_, c1_, rfl, hc1_, hm1_, hr1_⟩ := OwnK.read HOa
    obtain ⟨gN, rfl, hg1_, hz1⟩ := hr1_ 0 k0 rfl
    have HON := Lib.hid HOa
    clear hr1_ HOa hba hoa hbN lt c0 c1 c2 c3 c4 c5 c6 c7 c8
    obtain ⟨lt, c0, c1, c2, c3, c4, c5, c6, c7, c8⟩ := EN
    simp only [List.length_cons, List.length_nil, Nat.zero_add] at hc1_ hm1_ HON ⊢
    go_wp2_with fail
    have hl_ := ExL.at_ (j := 1) (x := y1) HLN.out rfl
    obtain ⟨g1, off1, cs1, hq1, hg1, hx1, hcell⟩ := hl_
    obtain ⟨rfl, rfl⟩ : g1 = g0 ∧ off1 = off0 := by cases hq1; exact ⟨rfl, rfl⟩
    clear hq1
    have HX1 := Lib.hid hx1
    obtain ⟨op2, v2, rel2, col2, n2, s2, l2⟩ := y1
    rw [ExM.iff] at hx1
    obtain ⟨-, qq1, cc1, rfl, -, -⟩ := hx1
    have f0 := hcell 0 _ rfl
    have f1 := hcell 1 _ rfl
    have f2 := hcell 2 _ rfl
    have f3 := hcell 3 _ rfl
    have f4 := hcell 4 _ rfl
    have f5 := hcell 5 _ rfl
    have f6 := hcell 6 _ rfl
    have f7 := hcell 7 _ rfl
    have f8 := hcell 8 _ rfl
    clear hcell
    rw [rounds_succ]
    go_wp2_with fail
    refine (HIy1.out _ _ HX1.out HKN.out).mono ?_
    rintro e Z ⟨he, hb⟩
    have HBZ := Lib.hid (HBN.out.trans (hb.mono HBN.out.size))
    have EZ := HEN.out.on hb
    have HEZ := Lib.hid EZ
    have HLZ := Lib.hid (ExL.ext hb _ _ _ HLN.out)
    have HKZ := Lib.hid (HKN.out.on hb)
    have HOZ := Lib.hid (HON.out.later hb)
    have hbYZ := Lib.hid (hbYN.out.trans (hb.mono hbYN.out.size))
    clear f0 f1 f2 f3 f4 f5 f6 f7 f8
    clear lt c0 c1 c2 c3 c4 c5 c6 c7 c8
    clear hg1_ hz1
    clear hb
    obtain ⟨lt, c0, c1, c2, c3, c4, c5, c6, c7, c8⟩ := EZ
    cases hk1 : kindE cols ps (Ex.mk op2 v2 rel2 col2 n2 s2 l2) with
    | none =>
      rw [hk1] at he
      obtain ⟨kk, rfl⟩ := he
      go_wp2_with fail
      refine bodyPost_ret (v := .tuple #[.int .i64 0, .bool false]) (by simp [results, Tryd.results59, go_sem]) rfl ⟨by rw [HQ.out, kindL, HK0.out, kindL, hk1]; exact ⟨_, rfl⟩, HBZ.out⟩
    | some k1 =>
      rw [hk1] at he
      have HK1 := Lib.hid hk1
      clear hk1
      simp only [KindIs] at he
      subst he
      go_wp2_with (at_builtin; refine wp_append_flat rfl _ _ 39 3 rfl Tryd.underlying39 (.int .i64 0) 8 Tryd.infoInt8 rfl (by decide) iCell_len iCell_one Y.heap.size _ [k0] rfl (HOZ.out.later (ext_alloc (ext_refl _) _)) _ 1 1 [k1] rfl rfl 0 _ (one_block iCell_len 3 #[.int .i64 k1] k1 rfl _ rfl) ?ka1 ?kb1 ?kc1 ?_)
      case ka1 => simp [maxLen]
      case kb1 => simp
      case kc1 => (have := hbYZ.out.size; simp; omega)
      intro vv M HOa hba hoa
      have hbM := hbYZ.out.trans (((ext_alloc (ext_refl Z) (.cells #[.int .i64 k1] 3)).mono hbYZ.out.size).trans hba)
      have HBM := Lib.hid (HBY.out.trans (hbM.mono HBY.out.size))
      have EM := HEY.out.on hbM
      obtain ⟨q2_, c2_, rfl, hc2_, hm2_, hr2_⟩ := OwnK.read HOa
      obtain ⟨gM, rfl, hg2_, hz0⟩ := hr2_ 0 k0 rfl
      obtain ⟨_, hqq, _, hz1⟩ := hr2_ 1 k1 rfl
      cases hqq
      clear hr2_ HOa hba hoa hbM lt c0 c1 c2 c3 c4 c5 c6 c7 c8
      obtain ⟨lt, c0, c1, c2, c3, c4, c5, c6, c7, c8⟩ := EM
      simp only [List.length_cons, List.length_nil, Nat.zero_add, Nat.reduceAdd] at hc2_ hm2_ ⊢
      go_wp2_with fail
      rw [rounds_succ]
      cases e1 : k0 == k1 with
      | true =>
        have HV := Lib.hid (show (k0 == k1 || k0 == 0 || k1 == 0) = true by rw [e1]; rfl)
        go_wp2_with fail
        go_big_quiet (fail)
        go_wp2_with fail
        refine bodyPost_ret (v := .tuple #[.int .i64 2, .bool true]) (by simp [results, Tryd.results59, go_sem]) rfl ⟨by rw [HQ.out, kindL, HK0.out, kindL, HK1.out, kindL]; simp only; rw [HS.out, HYI.out]; show KindIs (if (k0 == k1 || k0 == 0 || k1 == 0) = true then some 2 else none) _; rw [HV.out]; rfl, by have := HBM.out; (repeat (first | exact ext_refl _ | assumption | (refine ext_alloc ?_ _) | (refine ext_drewN ?_ _) | refine ext_drew ?_ | (refine ext_set (by first | (simp; done) | (simp; omega)) _ ?_) | (refine ext_trans ?_ (by assumption))))⟩
      | false =>
        cases e2 : k0 == 0 with
        | true =>
          have HV := Lib.hid (show (k0 == k1 || k0 == 0 || k1 == 0) = true by rw [e1, e2]; rfl)
          go_wp2_with fail
          go_big_quiet (fail)
          go_wp2_with fail
          refine bodyPost_ret (v := .tuple #[.int .i64 2, .bool true]) (by simp [results, Tryd.results59, go_sem]) rfl ⟨by rw [HQ.out, kindL, HK0.out, kindL, HK1.out, kindL]; simp only; rw [HS.out, HYI.out]; show KindIs (if (k0 == k1 || k0 == 0 || k1 == 0) = true then some 2 else none) _; rw [HV.out]; rfl, by have := HBM.out; (repeat (first | exact ext_refl _ | assumption | (refine ext_alloc ?_ _) | (refine ext_drewN ?_ _) | refine ext_drew ?_ | (refine ext_set (by first | (simp; done) | (simp; omega)) _ ?_) | (refine ext_trans ?_ (by assumption))))⟩
        | false =>
          cases e3 : k1 == 0 with
          | true =>
            have HV := Lib.hid (show (k0 == k1 || k0 == 0 || k1 == 0) = true by rw [e1, e2, e3]; rfl)
            go_wp2_with fail
            go_big_quiet (fail)
            go_wp2_with fail
            refine bodyPost_ret (v := .tuple #[.int .i64 2, .bool true]) (by simp [results, Tryd.results59, go_sem]) rfl ⟨by rw [HQ.out, kindL, HK0.out, kindL, HK1.out, kindL]; simp only; rw [HS.out, HYI.out]; show KindIs (if (k0 == k1 || k0 == 0 || k1 == 0) = true then some 2 else none) _; rw [HV.out]; rfl, by have := HBM.out; (repeat (first | exact ext_refl _ | assumption | (refine ext_alloc ?_ _) | (refine ext_drewN ?_ _) | refine ext_drew ?_ | (refine ext_set (by first | (simp; done) | (simp; omega)) _ ?_) | (refine ext_trans ?_ (by assumption))))⟩
          | false =>
            have HV := Lib.hid (show (k0 == k1 || k0 == 0 || k1 == 0) = false by rw [e1, e2, e3]; rfl)
            go_wp2_with fail
            go_big_quiet (fail)
            go_wp2_with fail
            refine bodyPost_ret (v := .tuple #[.int .i64 2, .bool false]) (by simp [results, Tryd.results59, go_sem]) rfl ⟨by rw [HQ.out, kindL, HK0.out, kindL, HK1.out, kindL]; simp only; rw [HS.out, HYI.out]; show KindIs (if (k0 == k1 || k0 == 0 || k1 == 0) = true then some 2 else none) _; rw [HV.out]; exact ⟨_, rfl⟩, by have := HBM.out; (repeat (first | exact ext_refl _ | assumption | (refine ext_alloc ?_ _) | (refine ext_drewN ?_ _) | refine ext_drew ?_ | (refine ext_set (by first | (simp; done) | (simp; omega)) _ ?_) | (refine ext_trans ?_ (by assumption))))⟩

set_option maxHeartbeats 16000000 in
theorem rkind_two_logic (op : Int) (v : Val) (rel col n : Int) (s : ByteArray) (y0 : Ex) (y1 : Ex) (q : Option Addr) (c : Nat) (w : World) (cv pv : Value) (cols : List (List Int)) (ps : List Int) (hk : KM w cv pv cols ps) (h1 : 15 ≤ op) (h2 : op ≤ 17) (hl : ExL w q 0 [y0, y1]) (IHy0 : ∀ (cs : List Value) (w : World), ExM w y0 cs → KM w cv pv cols ps → Calls Tryd.prog 59 #[.agg cs.toArray, cv, pv] w fun e w' => KindIs (kindE cols ps y0) e ∧ Below w.heap.size w w') (IHy1 : ∀ (cs : List Value) (w : World), ExM w y1 cs → KM w cv pv cols ps → Calls Tryd.prog 59 #[.agg cs.toArray, cv, pv] w fun e w' => KindIs (kindE cols ps y1) e ∧ Below w.heap.size w w') : Calls Tryd.prog 59 #[.agg (exCells op v rel col n s q ([y0, y1] : List Ex).length c).toArray, cv, pv] w fun e w' => KindIs (kindE cols ps (.mk op v rel col n s [y0, y1])) e ∧ Below w.heap.size w w' := by
  have HQ := Lib.hid (kind_op (cols := cols) (ps := ps) (v := v) (rel := rel) (col := col) (n := n) (s := s) (l := [y0, y1]) (show 4 ≤ op by omega))
  have q1 : (op == 1) = false := by rw [beq_eq_false_iff_ne]; omega
  have q2 : (op == 2) = false := by rw [beq_eq_false_iff_ne]; omega
  have q3 : (op == 3) = false := by rw [beq_eq_false_iff_ne]; omega
  have q18 : (op == 18) = false := by first | (rw [beq_eq_false_iff_ne]; omega) | (rw [beq_iff_eq]; omega)
  have d8 : ¬ op ≤ 8 := by omega
  have d14 : ¬ op ≤ 14 := by omega
  have HS := Lib.hid (fun l => show suitK op l = l.all (fun k => k == 2 || k == 0) by unfold suitK; rw [if_neg (by omega), if_neg (by omega), if_neg (by omega)])
  have HYI := Lib.hid (show yieldsK op = 2 by unfold yieldsK; rw [if_neg (by omega)])
  clear h1 h2
  have HK := Lib.hid hk
  have HL := Lib.hid hl
  have HIy0 := Lib.hid IHy0
  clear IHy0
  have HIy1 := Lib.hid IHy1
  clear IHy1
  clear hl
  obtain ⟨⟨cq, cc, rfl, hcc, hcm, -⟩, pq, pc, rfl, hpc, hpm, -⟩ := hk
  simp only [List.length_cons, List.length_nil, Nat.zero_add]
  have E0 := EB.new w op v rel col n s q 2 c 26
  have B0 : Below w.heap.size w (w.alloc (.cells (exCells op v rel col n s q 2 c).toArray 26)) := ext_alloc (ext_refl _) _
  obtain ⟨W, hW⟩ : ∃ W, W = w.alloc (.cells (exCells op v rel col n s q 2 c).toArray 26) := ⟨_, rfl⟩
  rw [← hW] at E0 B0
  go_enter Tryd.func59, Tryd.ntmps59
  go_upto_region 1 with fail
  rw [← hW]
  clear hW
  obtain ⟨g, hg⟩ : ∃ g, g = w.heap.size := ⟨_, rfl⟩
  have HB := Lib.hid B0
  have HGW := Lib.hid hg
  rw [← hg] at E0
  rw [← hg]
  clear B0 hg
  have HE := Lib.hid E0
  obtain ⟨lt, c0, c1, c2, c3, c4, c5, c6, c7, c8⟩ := E0
  have hl_0 := ExL.ext HB.out _ _ _ HL.out
  have HLW := Lib.hid hl_0
  have HKW := Lib.hid (HK.out.on HB.out)
  clear hl_0
  have hl_ := ExL.at_ (j := 0) (x := y0) HLW.out rfl
  obtain ⟨g0, off0, cs0, hq0, hg0, hx0, hcell⟩ := hl_
  subst hq0
  have HX0 := Lib.hid hx0
  obtain ⟨op1, v1, rel1, col1, n1, s1, l1⟩ := y0
  rw [ExM.iff] at hx0
  obtain ⟨-, qq0, cc0, rfl, -, -⟩ := hx0
  have f0 := hcell 0 _ rfl
  have f1 := hcell 1 _ rfl
  have f2 := hcell 2 _ rfl
  have f3 := hcell 3 _ rfl
  have f4 := hcell 4 _ rfl
  have f5 := hcell 5 _ rfl
  have f6 := hcell 6 _ rfl
  have f7 := hcell 7 _ rfl
  have f8 := hcell 8 _ rfl
  simp only [Nat.zero_mul, Nat.add_zero] at f0 f1 f2 f3 f4 f5 f6 f7 f8
  clear hcell
  go_wp2_with fail
  refine wp_loop_rounds 3 ?_
  rw [rounds_succ]
  go_wp2_with fail
  refine (HIy0.out _ _ HX0.out HKW.out).mono ?_
  rintro e Y ⟨he, hb⟩
  have HBY := Lib.hid (HB.out.trans (hb.mono HB.out.size))
  have EY := HE.out.on hb
  have HEY := Lib.hid EY
  have HLY := Lib.hid (ExL.ext hb _ _ _ HLW.out)
  have HKY := Lib.hid (HKW.out.on hb)
  clear f0 f1 f2 f3 f4 f5 f6 f7 f8
  clear lt c0 c1 c2 c3 c4 c5 c6 c7 c8
  clear hb
  obtain ⟨lt, c0, c1, c2, c3, c4, c5, c6, c7, c8⟩ := EY
  cases hk0 : kindE cols ps (Ex.mk op1 v1 rel1 col1 n1 s1 l1) with
  | none =>
    rw [hk0] at he
    obtain ⟨kk, rfl⟩ := he
    go_wp2_with fail
    refine bodyPost_ret (v := .tuple #[.int .i64 0, .bool false]) (by simp [results, Tryd.results59, go_sem]) rfl ⟨by rw [HQ.out, kindL, hk0]; exact ⟨_, rfl⟩, HBY.out⟩
  | some k0 =>
    rw [hk0] at he
    have HK0 := Lib.hid hk0
    clear hk0
    simp only [KindIs] at he
    subst he
    go_wp2_with (at_builtin; refine wp_append_flat rfl _ _ 39 3 rfl Tryd.underlying39 (.int .i64 0) 8 Tryd.infoInt8 rfl (by decide) iCell_len iCell_one Y.heap.size _ [] rfl (OwnF.nil _ _ _) _ 1 1 [k0] rfl rfl 0 _ (one_block iCell_len 3 #[.int .i64 k0] k0 rfl _ rfl) ?ka0 ?kb0 ?kc0 ?_)
    case ka0 => simp [maxLen]
    case kb0 => simp
    case kc0 => simp
    intro vv N HOa hba hoa
    have hbN := (ext_alloc (ext_refl Y) (.cells #[.int .i64 k0] 3)).trans hba
    have HBN := Lib.hid (HBY.out.trans (hbN.mono HBY.out.size))
    have EN := HEY.out.on hbN
    have HEN := Lib.hid EN
    have HLN := Lib.hid (ExL.ext hbN _ _ _ HLY.out)
    have HKN := Lib.hid (HKY.out.on hbN)
    have hbYN := Lib.hid hbN
    obtain ⟨q1_, c1_, rfl, hc1_, hm1_, hr1_⟩ := OwnK.read HOa
    obtain ⟨gN, rfl, hg1_, hz1⟩ := hr1_ 0 k0 rfl
    have HON := Lib.hid HOa
    clear hr1_ HOa hba hoa hbN lt c0 c1 c2 c3 c4 c5 c6 c7 c8
    obtain ⟨lt, c0, c1, c2, c3, c4, c5, c6, c7, c8⟩ := EN
    simp only [List.length_cons, List.length_nil, Nat.zero_add] at hc1_ hm1_ HON ⊢
    go_wp2_with fail
    have hl_ := ExL.at_ (j := 1) (x := y1) HLN.out rfl
    obtain ⟨g1, off1, cs1, hq1, hg1, hx1, hcell⟩ := hl_
    obtain ⟨rfl, rfl⟩ : g1 = g0 ∧ off1 = off0 := by cases hq1; exact ⟨rfl, rfl⟩
    clear hq1
    have HX1 := Lib.hid hx1
    obtain ⟨op2, v2, rel2, col2, n2, s2, l2⟩ := y1
    rw [ExM.iff] at hx1
    obtain ⟨-, qq1, cc1, rfl, -, -⟩ := hx1
    have f0 := hcell 0 _ rfl
    have f1 := hcell 1 _ rfl
    have f2 := hcell 2 _ rfl
    have f3 := hcell 3 _ rfl
    have f4 := hcell 4 _ rfl
    have f5 := hcell 5 _ rfl
    have f6 := hcell 6 _ rfl
    have f7 := hcell 7 _ rfl
    have f8 := hcell 8 _ rfl
    clear hcell
    rw [rounds_succ]
    go_wp2_with fail
    refine (HIy1.out _ _ HX1.out HKN.out).mono ?_
    rintro e Z ⟨he, hb⟩
    have HBZ := Lib.hid (HBN.out.trans (hb.mono HBN.out.size))
    have EZ := HEN.out.on hb
    have HEZ := Lib.hid EZ
    have HLZ := Lib.hid (ExL.ext hb _ _ _ HLN.out)
    have HKZ := Lib.hid (HKN.out.on hb)
    have HOZ := Lib.hid (HON.out.later hb)
    have hbYZ := Lib.hid (hbYN.out.trans (hb.mono hbYN.out.size))
    clear f0 f1 f2 f3 f4 f5 f6 f7 f8
    clear lt c0 c1 c2 c3 c4 c5 c6 c7 c8
    clear hg1_ hz1
    clear hb
    obtain ⟨lt, c0, c1, c2, c3, c4, c5, c6, c7, c8⟩ := EZ
    cases hk1 : kindE cols ps (Ex.mk op2 v2 rel2 col2 n2 s2 l2) with
    | none =>
      rw [hk1] at he
      obtain ⟨kk, rfl⟩ := he
      go_wp2_with fail
      refine bodyPost_ret (v := .tuple #[.int .i64 0, .bool false]) (by simp [results, Tryd.results59, go_sem]) rfl ⟨by rw [HQ.out, kindL, HK0.out, kindL, hk1]; exact ⟨_, rfl⟩, HBZ.out⟩
    | some k1 =>
      rw [hk1] at he
      have HK1 := Lib.hid hk1
      clear hk1
      simp only [KindIs] at he
      subst he
      go_wp2_with (at_builtin; refine wp_append_flat rfl _ _ 39 3 rfl Tryd.underlying39 (.int .i64 0) 8 Tryd.infoInt8 rfl (by decide) iCell_len iCell_one Y.heap.size _ [k0] rfl (HOZ.out.later (ext_alloc (ext_refl _) _)) _ 1 1 [k1] rfl rfl 0 _ (one_block iCell_len 3 #[.int .i64 k1] k1 rfl _ rfl) ?ka1 ?kb1 ?kc1 ?_)
      case ka1 => simp [maxLen]
      case kb1 => simp
      case kc1 => (have := hbYZ.out.size; simp; omega)
      intro vv M HOa hba hoa
      have hbM := hbYZ.out.trans (((ext_alloc (ext_refl Z) (.cells #[.int .i64 k1] 3)).mono hbYZ.out.size).trans hba)
      have HBM := Lib.hid (HBY.out.trans (hbM.mono HBY.out.size))
      have EM := HEY.out.on hbM
      obtain ⟨q2_, c2_, rfl, hc2_, hm2_, hr2_⟩ := OwnK.read HOa
      obtain ⟨gM, rfl, hg2_, hz0⟩ := hr2_ 0 k0 rfl
      obtain ⟨_, hqq, _, hz1⟩ := hr2_ 1 k1 rfl
      cases hqq
      clear hr2_ HOa hba hoa hbM lt c0 c1 c2 c3 c4 c5 c6 c7 c8
      obtain ⟨lt, c0, c1, c2, c3, c4, c5, c6, c7, c8⟩ := EM
      simp only [List.length_cons, List.length_nil, Nat.zero_add, Nat.reduceAdd] at hc2_ hm2_ ⊢
      go_wp2_with fail
      rw [rounds_succ]
      go_wp2_with fail
      refine wp_loop_rounds 3 ?_
      rw [rounds_succ]
      cases e0a : k0 == 2 with
      | true =>
        have n0a : (k0 != 2) = false := by rw [bne, e0a]; rfl
        go_wp2_with fail
        rw [rounds_succ]
        cases e1a : k1 == 2 with
        | true =>
          have n1a : (k1 != 2) = false := by rw [bne, e1a]; rfl
          go_wp2_with fail
          rw [rounds_succ]
          go_wp2_with fail
          refine bodyPost_ret (v := .tuple #[.int .i64 2, .bool true]) (by simp [results, Tryd.results59, go_sem]) rfl ⟨by rw [HQ.out, kindL, HK0.out, kindL, HK1.out, kindL]; simp only; rw [HS.out, HYI.out]; simp only [List.all_cons, List.all_nil, e0a, e1a]; rfl, HBM.out⟩
        | false =>
          have n1a : (k1 != 2) = true := by rw [bne, e1a]; rfl
          cases e1b : k1 == 0 with
          | true =>
            have n1b : (k1 != 0) = false := by rw [bne, e1b]; rfl
            go_wp2_with fail
            rw [rounds_succ]
            go_wp2_with fail
            refine bodyPost_ret (v := .tuple #[.int .i64 2, .bool true]) (by simp [results, Tryd.results59, go_sem]) rfl ⟨by rw [HQ.out, kindL, HK0.out, kindL, HK1.out, kindL]; simp only; rw [HS.out, HYI.out]; simp only [List.all_cons, List.all_nil, e0a, e1a, e1b]; rfl, HBM.out⟩
          | false =>
            have n1b : (k1 != 0) = true := by rw [bne, e1b]; rfl
            go_wp2_with fail
            refine bodyPost_ret (v := .tuple #[.int .i64 0, .bool false]) (by simp [results, Tryd.results59, go_sem]) rfl ⟨by rw [HQ.out, kindL, HK0.out, kindL, HK1.out, kindL]; simp only; rw [HS.out, HYI.out]; simp only [List.all_cons, List.all_nil, e0a, e1a, e1b]; exact ⟨_, rfl⟩, HBM.out⟩
      | false =>
        have n0a : (k0 != 2) = true := by rw [bne, e0a]; rfl
        cases e0b : k0 == 0 with
        | true =>
          have n0b : (k0 != 0) = false := by rw [bne, e0b]; rfl
          go_wp2_with fail
          rw [rounds_succ]
          cases e1a : k1 == 2 with
          | true =>
            have n1a : (k1 != 2) = false := by rw [bne, e1a]; rfl
            go_wp2_with fail
            rw [rounds_succ]
            go_wp2_with fail
            refine bodyPost_ret (v := .tuple #[.int .i64 2, .bool true]) (by simp [results, Tryd.results59, go_sem]) rfl ⟨by rw [HQ.out, kindL, HK0.out, kindL, HK1.out, kindL]; simp only; rw [HS.out, HYI.out]; simp only [List.all_cons, List.all_nil, e0a, e0b, e1a]; rfl, HBM.out⟩
          | false =>
            have n1a : (k1 != 2) = true := by rw [bne, e1a]; rfl
            cases e1b : k1 == 0 with
            | true =>
              have n1b : (k1 != 0) = false := by rw [bne, e1b]; rfl
              go_wp2_with fail
              rw [rounds_succ]
              go_wp2_with fail
              refine bodyPost_ret (v := .tuple #[.int .i64 2, .bool true]) (by simp [results, Tryd.results59, go_sem]) rfl ⟨by rw [HQ.out, kindL, HK0.out, kindL, HK1.out, kindL]; simp only; rw [HS.out, HYI.out]; simp only [List.all_cons, List.all_nil, e0a, e0b, e1a, e1b]; rfl, HBM.out⟩
            | false =>
              have n1b : (k1 != 0) = true := by rw [bne, e1b]; rfl
              go_wp2_with fail
              refine bodyPost_ret (v := .tuple #[.int .i64 0, .bool false]) (by simp [results, Tryd.results59, go_sem]) rfl ⟨by rw [HQ.out, kindL, HK0.out, kindL, HK1.out, kindL]; simp only; rw [HS.out, HYI.out]; simp only [List.all_cons, List.all_nil, e0a, e0b, e1a, e1b]; exact ⟨_, rfl⟩, HBM.out⟩
        | false =>
          have n0b : (k0 != 0) = true := by rw [bne, e0b]; rfl
          go_wp2_with fail
          refine bodyPost_ret (v := .tuple #[.int .i64 0, .bool false]) (by simp [results, Tryd.results59, go_sem]) rfl ⟨by rw [HQ.out, kindL, HK0.out, kindL, HK1.out, kindL]; simp only; rw [HS.out, HYI.out]; simp only [List.all_cons, List.all_nil, e0a, e0b]; exact ⟨_, rfl⟩, HBM.out⟩

theorem wants_three {op : Int} {v : Val} {rel col n : Int} {s : ByteArray} {len : Nat} (h : headOk op v rel col n s len = true) (h0 : 0 < len) : 4 ≤ op ∧ op ≤ 18 ∧ (len = 1 → op = 8 ∨ op = 17 ∨ op = 18) ∧ (len = 2 → op ≠ 18) := by
  have hr := op_range h
  have h1 := (head_parts h).1
  unfold wantsOf at h1
  split at h1
  · omega
  · split at h1
    · omega
    · split at h1 <;> omega
theorem rkind_any : ∀ (k : Nat) (x : Ex), x.deep ≤ k → x.okAll = true → ∀ (cs : List Value) (w : World) (cv pv : Value) (cols : List (List Int)) (ps : List Int), ExM w x cs → KM w cv pv cols ps → knownE cols ps x = true → Calls Tryd.prog 59 #[.agg cs.toArray, cv, pv] w fun e w' => KindIs (kindE cols ps x) e ∧ Below w.heap.size w w'
  | 0, x, h, _, _, _, _, _, _, _, _, _, _ => absurd h (by have := deep_pos x; omega)
  | k + 1, .mk op v rel col n s l, hd, hok, cs, w, cv, pv, cols, ps, h, hk, hkn => by
    rw [ExM.iff] at h
    obtain ⟨-, q, c, rfl, -, hl⟩ := h
    rw [Ex.okAll, Bool.and_eq_true] at hok
    rw [Ex.deep] at hd
    match l, hl, hok, hd, hkn with
    | [], _, hok, _, hkn =>
      rcases (head_shape hok.1).2 with ⟨rfl, -, -, -, -, -⟩ | ⟨rfl, -, -, -⟩ | ⟨rfl, -, -, -, -⟩ | ⟨h4, h18, -, -, -, -, hw⟩
      · exact rkind_const v rel col n s q c w cv pv cols ps
      · have hr := rel_ok hok.1 rfl
        have hc := col_ok hok.1 rfl
        obtain ⟨r, rfl⟩ : ∃ r : Nat, rel = (r : Int) := ⟨rel.toNat, by omega⟩
        obtain ⟨m, rfl⟩ : ∃ m : Nat, col = (m : Int) := ⟨col.toNat, by omega⟩
        rw [knownE, knownL, Bool.and_true, leafK, if_pos rfl, Int.toNat_natCast, Int.toNat_natCast] at hkn
        cases h1 : cols[r]? with
        | none => rw [h1] at hkn; cases hkn
        | some ll =>
          rw [h1, Option.bind_some] at hkn
          cases h2 : ll[m]? with
          | none => rw [h2] at hkn; cases hkn
          | some z => exact rkind_col v n s q c w cv pv cols ps hk r m ll z h1 h2
      · have hn := n_ok hok.1 rfl
        obtain ⟨m, rfl⟩ : ∃ m : Nat, n = (m : Int) + 1 := ⟨(n - 1).toNat, by omega⟩
        rw [knownE, knownL, Bool.and_true, leafK, if_neg (by decide), if_pos rfl, show ((m : Int) + 1 - 1).toNat = m by omega] at hkn
        cases h2 : ps[m]? with
        | none => rw [h2] at hkn; cases hkn
        | some z => exact rkind_param v rel col s q c w cv pv cols ps hk m (by omega) z h2
      · exfalso
        unfold wantsOf at hw
        simp only [List.length_nil] at hw
        split at hw
        · omega
        · split at hw
          · omega
          · split at hw <;> omega
    | [x], hl, hok, hd, hkn =>
      have hx : okL [x] = true := hok.2
      rw [okL, okL, Bool.and_true] at hx
      rw [deepL, deepL] at hd
      have h4 := wants_three hok.1 (by simp)
      rw [known_other (by omega) (by omega), knownL, knownL, Bool.and_true] at hkn
      have IH := fun cs w hx' hk' => rkind_any k x (by omega) hx cs w cv pv cols ps hx' hk' hkn
      rcases h4.2.2.1 rfl with e | e | e
      · exact rkind_one_arith op v rel col n s x q c w cv pv cols ps hk (by omega) (by omega) hl IH
      · exact rkind_one_logic op v rel col n s x q c w cv pv cols ps hk (by omega) (by omega) hl IH
      · exact rkind_one_is op v rel col n s x q c w cv pv cols ps hk e hl IH
    | [x, y], hl, hok, hd, hkn =>
      have hx : okL [x, y] = true := hok.2
      rw [okL, okL, okL, Bool.and_true, Bool.and_eq_true] at hx
      rw [deepL, deepL, deepL] at hd
      have h4 := wants_three hok.1 (by simp)
      have h18 := h4.2.2.2 rfl
      rw [known_other (by omega) (by omega), knownL, knownL, knownL, Bool.and_true, Bool.and_eq_true] at hkn
      have IHx := fun cs w hx' hk' => rkind_any k x (by omega) hx.1 cs w cv pv cols ps hx' hk' hkn.1
      have IHy := fun cs w hx' hk' => rkind_any k y (by omega) hx.2 cs w cv pv cols ps hx' hk' hkn.2
      by_cases e8 : op ≤ 8
      · exact rkind_two_arith op v rel col n s x y q c w cv pv cols ps hk (by omega) e8 hl IHx IHy
      · by_cases e14 : op ≤ 14
        · exact rkind_two_test op v rel col n s x y q c w cv pv cols ps hk (by omega) e14 hl IHx IHy
        · exact rkind_two_logic op v rel col n s x y q c w cv pv cols ps hk (by omega) (by omega) hl IHx IHy
    | _ :: _ :: _ :: r, _, hok, _, _ =>
      have := head_two hok.1
      simp only [List.length_cons] at this
      omega

set_option maxHeartbeats 8000000 in
theorem rkindE_any (x : Ex) (cs : List Value) (w : World) (cv pv : Value) (cols : List (List Int)) (ps : List Int) (hx : ExM w x cs) (hM : KM w cv pv cols ps) :
    Calls Tryd.prog 26 #[.agg cs.toArray, cv, pv] w fun e w' => e = .returned (.tuple #[.int .i64 (kindR cols ps x).1, .int .i64 (kindR cols ps x).2]) ∧ Below w.heap.size w w' := by
  have HX := Lib.hid hx
  have HM := Lib.hid hM
  obtain ⟨op, v, rel, col, n, s, l⟩ := x
  rw [ExM.iff] at hx
  obtain ⟨-, q, c, rfl, -, -⟩ := hx
  obtain ⟨⟨cq, cc, rfl, hcc, hcm, -⟩, pq, pc, rfl, hpc, hpm, -⟩ := hM
  obtain ⟨len, hlen⟩ : ∃ len, len = l.length := ⟨_, rfl⟩
  rw [← hlen] at HX ⊢
  clear hlen
  have E0 := EB.new w op v rel col n s q len c 26
  have B0 : Below w.heap.size w (w.alloc (.cells (exCells op v rel col n s q len c).toArray 26)) := ext_alloc (ext_refl _) _
  obtain ⟨W, hW⟩ : ∃ W, W = w.alloc (.cells (exCells op v rel col n s q len c).toArray 26) := ⟨_, rfl⟩
  rw [← hW] at E0 B0
  go_enter Tryd.func26, Tryd.ntmps26
  go_upto_region 1 with fail
  rw [← hW]
  clear hW
  obtain ⟨g, hg⟩ : ∃ g, g = w.heap.size := ⟨_, rfl⟩
  have HB := Lib.hid B0
  have HGW := Lib.hid hg
  rw [← hg] at E0
  rw [← hg]
  clear B0 hg
  have HE := Lib.hid E0
  obtain ⟨lt, c0, c1, c2, c3, c4, c5, c6, c7, c8⟩ := E0
  go_wp2_with fail
  refine (rightE_any _ _ W (ExM.ext HB.out _ _ HX.out)).mono ?_
  rintro e X ⟨he, hbX⟩
  have HBX := Lib.hid (HB.out.trans (hbX.mono HB.out.size))
  have EX := HE.out.on hbX
  have HEX := Lib.hid EX
  clear hbX lt c0 c1 c2 c3 c4 c5 c6 c7 c8
  obtain ⟨lt, c0, c1, c2, c3, c4, c5, c6, c7, c8⟩ := EX
  cases hs : rightE (.mk op v rel col n s l) with
  | false =>
    have HQ := Lib.hid (show kindR cols ps (.mk op v rel col n s l) = (0, 1) by unfold kindR; rw [hs]; rfl)
    rw [hs] at he
    clear hs
    subst he
    go_wp2_with fail
    refine bodyPost_ret (v := .tuple #[.int .i64 0, .int .i64 1]) (by simp [results, Tryd.results26, go_sem]) rfl ⟨by rw [HQ.out], HBX.out⟩
  | true =>
    have HR := Lib.hid hs
    have HP := Lib.hid (rightE_parts hs)
    rw [hs] at he
    clear hs
    subst he
    go_wp2_with fail
    refine (rknown_any _ _ (Nat.le_refl _) HP.out.1 _ X _ _ cols ps (ExM.ext HBX.out _ _ HX.out) (HM.out.on HBX.out)).mono ?_
    rintro e Y ⟨he, hbY⟩
    have HBY := Lib.hid (HBX.out.trans (hbY.mono HBX.out.size))
    have EY := HEX.out.on hbY
    clear hbY lt c0 c1 c2 c3 c4 c5 c6 c7 c8
    obtain ⟨lt, c0, c1, c2, c3, c4, c5, c6, c7, c8⟩ := EY
    cases hs : knownE cols ps (.mk op v rel col n s l) with
    | false =>
      have HQ := Lib.hid (show kindR cols ps (.mk op v rel col n s l) = (0, 1) by unfold kindR; rw [hs, Bool.and_false]; rfl)
      rw [hs] at he
      clear hs
      subst he
      go_wp2_with fail
      refine bodyPost_ret (v := .tuple #[.int .i64 0, .int .i64 1]) (by simp [results, Tryd.results26, go_sem]) rfl ⟨by rw [HQ.out], HBY.out⟩
    | true =>
      have HQ := Lib.hid (show kindR cols ps (.mk op v rel col n s l) = (match kindE cols ps (.mk op v rel col n s l) with
        | some k => (k, 0)
        | none => (0, 9)) by unfold kindR; rw [HR.out, hs]; rfl)
      have HKN := Lib.hid hs
      rw [hs] at he
      clear hs
      subst he
      go_wp2_with fail
      refine (rkind_any _ _ (Nat.le_refl _) HP.out.1 _ Y _ _ cols ps (ExM.ext HBY.out _ _ HX.out) (HM.out.on HBY.out) HKN.out).mono ?_
      rintro e Z ⟨he, hbZ⟩
      have HBZ := Lib.hid (HBY.out.trans (hbZ.mono HBY.out.size))
      clear hbZ lt c0 c1 c2 c3 c4 c5 c6 c7 c8
      cases hk : kindE cols ps (.mk op v rel col n s l) with
      | none =>
        rw [hk] at he
        have HQ2 := Lib.hid (HQ.out.trans (by rw [hk]))
        clear hk
        obtain ⟨kk, rfl⟩ := he
        go_wp2_with fail
        refine bodyPost_ret (v := .tuple #[.int .i64 0, .int .i64 9]) (by simp [results, Tryd.results26, go_sem]) rfl ⟨by rw [HQ2.out], HBZ.out⟩
      | some k =>
        rw [hk] at he
        have HQ2 := Lib.hid (HQ.out.trans (by rw [hk]))
        clear hk
        simp only [KindIs] at he
        subst he
        go_wp2_with fail
        refine bodyPost_ret (v := .tuple #[.int .i64 k, .int .i64 0]) (by simp [results, Tryd.results26, go_sem]) rfl ⟨by rw [HQ2.out], HBZ.out⟩

end Go.Proofs.YthdnbcdcfaocmaaDoor
