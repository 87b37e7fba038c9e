/- ParsePlaces: the law's walk. -/
import Derived.Test.YtgmmbfcjjgehoaaGreatDoorQaF
namespace Go.Proofs.YtgmmbfcjjgehoaaGreatDoor
open Go.RowKit Go.Deep
set_option maxRecDepth 100000

/-- Where the tables that are joined from outside begin. -/
theorem okFroms.from_ {l : List Fr} (h : okFroms l) : ∃ m0, 1 ≤ m0 ∧ l.length ≤ 6 ∧ 1 ≤ l.length ∧ ∀ (k : Nat) (x : Fr), l[k]? = some x → (k < m0 → x.kind = 0) ∧ (m0 ≤ k → x.kind ≠ 0 ∧ x.on.length = 1) ∧ x.table ≠ [] ∧ x.alias ≠ [] := by
  obtain ⟨f, c, o, rfl, h1, h2, h3, h4, h5⟩ := h.parts
  refine ⟨c.length + 1, by omega, by simp; omega, by simp, fun k x hx => ⟨fun hk => ?_, fun hk => ?_, h.names x (List.mem_of_getElem? hx)⟩⟩
  · rw [List.getElem?_append_left (by simpa using hk)] at hx
    rcases List.mem_cons.1 (List.mem_of_getElem? hx) with rfl | hm
    · exact h1
    · exact h2 x hm
  · rw [List.getElem?_append_right (by simpa using hk)] at hx
    obtain ⟨a, b⟩ := h3 x (List.mem_of_getElem? hx)
    exact ⟨by omega, b⟩
theorem nz9 {k m0 : Nat} (h : ¬ k < m0) (h1 : 1 ≤ m0) : ((k : Int) == 0) = false := by rw [beq_eq_false_iff_ne]; omega
theorem wrapk9 {k : Nat} (h : k < 6) : wrap64 ((k : Int) + 1) = ((k + 1 : Nat) : Int) := by unfold wrap64; omega
theorem meas9 {k : Nat} (hk : k < 6) : 10 - (intOf (.int .i64 ((k : Int) + 1))).toNat < 10 - (intOf (.int .i64 (k : Int))).toNat := by
  show 10 - ((k : Int) + 1).toNat < 10 - (k : Int).toNat
  omega
theorem bs_ne {l : Bs} (h : l ≠ []) : ((bsB l).toList == ([] : List UInt8)) = false := by
  rw [beq_eq_false_iff_ne, ByteArray.toList_eq]
  exact h

set_option maxHeartbeats 8000000 in
theorem places9_walk (s : ByteArray) (w : World) (hG : GV w) (hs : s.size ≤ 9223372036854775807) : Calls Tryz.prog 4 #[.string s] w fun e w' => e = .returned (.bool true) ∧ Below w.heap.size w w' := by
  have HS := Lib.hid hs
  go_enter Tryz.func4, Tryz.ntmps4
  go_wp2_with fail
  refine (ex9_any w hG).mono ?_
  rintro e w1 ⟨rfl, hb1⟩
  have G1 := hG.on hb1
  have B1 := Lib.hid hb1
  clear hb1
  go_wp2_with fail
  refine (parse_any s w1 G1 HS.out).mono ?_
  rintro e w2 ⟨hA, hb2⟩
  have B2 := Lib.hid (B1.out.trans (hb2.mono B1.out.size))
  clear hb2
  cases hp : parseS s.data.toList with
  | err er a =>
    obtain rfl := hA.err hp
    obtain ⟨h1, h2⟩ := parseS_err hp
    have h2 : a ≤ s.size := h2
    obtain ⟨z, hz⟩ : ∃ z, z = s.size := ⟨_, rfl⟩
    rw [← hz] at h2
    have hz' : s.size = z := hz.symm
    have ha0 : (0 : Int) ≤ (a : Int) := by omega
    have ha1 : (a : Int) ≤ (z : Int) := by omega
    clear hA hp HS hs hz
    rcases h1 with rfl | rfl | rfl
    · go_wp2_with fail
      refine bodyPost_ret (v := .bool true) (by simp [results, Tryz.results4, go_sem]) rfl ⟨rfl, ?_⟩
      have hb := B2.out
      (repeat (first | exact ext_refl _ | assumption | (refine ext_alloc ?_ _) | (refine ext_drewN ?_ _) | refine ext_drew ?_ | (refine ext_set (by first | (simp; done) | (simp; omega)) _ ?_) | (refine ext_trans ?_ (by assumption))))
    · go_wp2_with fail
      refine bodyPost_ret (v := .bool true) (by simp [results, Tryz.results4, go_sem]) rfl ⟨rfl, ?_⟩
      have hb := B2.out
      (repeat (first | exact ext_refl _ | assumption | (refine ext_alloc ?_ _) | (refine ext_drewN ?_ _) | refine ext_drew ?_ | (refine ext_set (by first | (simp; done) | (simp; omega)) _ ?_) | (refine ext_trans ?_ (by assumption))))
    · go_wp2_with fail
      refine bodyPost_ret (v := .bool true) (by simp [results, Tryz.results4, go_sem]) rfl ⟨rfl, ?_⟩
      have hb := B2.out
      (repeat (first | exact ext_refl _ | assumption | (refine ext_alloc ?_ _) | (refine ext_drewN ?_ _) | refine ext_drew ?_ | (refine ext_set (by first | (simp; done) | (simp; omega)) _ ?_) | (refine ext_trans ?_ (by assumption))))
  | ok q =>
    obtain ⟨qs, ns, cs, qo, no, co, hm, -, rfl⟩ := hA.ok hp
    have OQ := Lib.hid (parseS_ok hp).1
    obtain ⟨A, hA1⟩ : ∃ A, A = w2.alloc (.cells #[.slice qs ns cs, .slice qo no co] 26) := ⟨_, rfl⟩
    have K1 : BkA A w2.heap.size [.slice qs ns cs, .slice qo no co] := by rw [hA1]; exact BkA.new w2 [.slice qs ns cs, .slice qo no co] 26
    have bA1 : Below w2.heap.size w2 A := by rw [hA1]; exact ext_alloc (ext_refl _) _
    have M1 := Lib.hid (hm.on bA1)
    have BA := Lib.hid (B2.out.trans (bA1.mono B2.out.size))
    have KA := Lib.hid K1
    have HA1 := Lib.hid hA1
    clear hA hm K1 bA1 hA1 G1 hG hp HS hs
    go_upto_region 3 with fail
    rw [← HA1.out]
    clear HA1
    obtain ⟨g, hg⟩ : ∃ g, g = w2.heap.size := ⟨_, rfl⟩
    rw [← hg] at KA ⊢
    clear hg
    have lt := KA.out.lt
    have c0 := KA.out.c 0 _ rfl
    have c1 := KA.out.c 1 _ rfl
    have hn1 : 1 ≤ ns ∧ ns ≤ 4 := by have h1 := M1.out.s.1; have h2 := OQ.out.sels; omega
    have hn2 : no ≤ 8 := by have h1 := M1.out.o.1; have h2 := OQ.out.order; omega
    go_wp2_with fail
    clear c0 c1 lt
    go_loopw [7] (fun va wr => ∃ i : Nat, va = .int .i64 i ∧ i ≤ ns ∧ Below A.heap.size A wr) (fun va _ => 10 - (intOf va).toNat)
    case atStart => exact ⟨0, by go_num, by omega, ext_refl _⟩
    case round =>
      obtain ⟨i, rfl, hi, hbr⟩ := hrel
      have BR := Lib.hid hbr
      have lt := (KA.out.on hbr).lt
      have c0 := (KA.out.on hbr).c 0 _ rfl
      clear hbr
      by_cases hlt : i < ns
      · obtain ⟨y, hy⟩ : ∃ y, q.sels[i]? = some y := ⟨_, List.getElem?_eq_getElem (by have h1 := M1.out.s.1; omega)⟩
        obtain ⟨gs, os, ra, hqa, lgs, hSM, s0, s1, s2, s3, s4⟩ := (M1.out.on BR.out).s.2.2.sl hy
        subst hqa
        have OS := Lib.hid (OQ.out.each y (List.mem_of_getElem? hy))
        obtain ⟨m0, hm1, hfl6, hfl1, hfr⟩ := OS.out.froms.from_
        have HFR := Lib.hid hfr
        obtain ⟨rd, ⟨iq, inn, ic⟩, ⟨fq, fn, fc⟩, ⟨wq, wn, wc⟩, ⟨gq, gn, gc⟩⟩ := ra
        dsimp only at s0 s1 s2 s3 s4
        obtain ⟨U, hU⟩ : ∃ U, U = wr.alloc (.cells #[.bool rd, .slice iq inn ic, .slice fq fn fc, .slice wq wn wc, .slice gq gn gc] 38) := ⟨_, rfl⟩
        have K2 : BkA U wr.heap.size [.bool rd, .slice iq inn ic, .slice fq fn fc, .slice wq wn wc, .slice gq gn gc] := by rw [hU]; exact BkA.new wr [.bool rd, .slice iq inn ic, .slice fq fn fc, .slice wq wn wc, .slice gq gn gc] 38
        have bU : Below wr.heap.size wr U := by rw [hU]; exact ext_alloc (ext_refl _) _
        have KU := Lib.hid K2
        have SU := Lib.hid (hSM.on bU)
        have BU := Lib.hid (BR.out.trans (bU.mono BR.out.size))
        have h1 : 1 ≤ inn ∧ inn ≤ 8 := by have h1 := hSM.i.1; have h2 := OS.out.items; dsimp only at h1; omega
        have h2 : 1 ≤ fn ∧ fn ≤ 6 := by have h1 := hSM.f.1; dsimp only at h1; omega
        have h3 : wn ≤ 1 := by have h1 := hSM.wh.1; have h2 := OS.out.where_; dsimp only at h1; omega
        have h4 : gn ≤ 8 := by have h1 := hSM.g.1; have h2 := OS.out.group; dsimp only at h1; omega
        have hw1 : wrap64 ((i : Int) + 1) = ((i + 1 : Nat) : Int) := by unfold wrap64; omega
        have HU := Lib.hid hU
        clear hy hSM K2 bU hU hfr hfl1 hfl6
        go_upto_region 11 with fail
        rw [← HU.out]
        clear HU s0 s1 s2 s3 s4 c0 lt lgs
        obtain ⟨g2, hg2⟩ : ∃ g, g = wr.heap.size := ⟨_, rfl⟩
        rw [← hg2] at KU ⊢
        clear hg2
        have lu := KU.out.lt
        have u1 := KU.out.c 1 _ rfl
        have u2 := KU.out.c 2 _ rfl
        have u3 := KU.out.c 3 _ rfl
        have u4 := KU.out.c 4 _ rfl
        go_wp2_with fail
        clear u1 u2 u3 u4 lu
        go_loopw [9, 10] (fun vi va wr2 => ∃ k : Nat, vi = .bool (decide (k ≤ m0)) ∧ va = .int .i64 k ∧ k ≤ fn ∧ Below U.heap.size U wr2) (fun _ va _ => 10 - (intOf va).toNat)
        case atStart => exact ⟨0, by simp, by go_num, by omega, ext_refl _⟩
        case round =>
          obtain ⟨k, rfl, rfl, hk, hbr⟩ := hrel
          have BS := Lib.hid hbr
          have lu := (KU.out.on hbr).lt
          have u2 := (KU.out.on hbr).c 2 _ rfl
          have hSf := (SU.out.on hbr).f
          clear hbr
          by_cases hlt2 : k < fn
          · obtain ⟨x, hx⟩ : ∃ x, y.froms[k]? = some x := ⟨_, List.getElem?_eq_getElem (by have h1 := hSf.1; dsimp only at h1; omega)⟩
            obtain ⟨gf, of_, pf, cf, hqf, lgf, hcf, -, f0, f1, f2, f3⟩ := hSf.2.2.fr hx
            dsimp only at hqf
            subst hqf
            obtain ⟨hk0, hk1, ht, hl⟩ := HFR.out k x hx
            have ht := bs_ne ht
            have hl := bs_ne hl
            obtain ⟨yt, hyt⟩ : ∃ u, u = bsB x.table := ⟨_, rfl⟩
            obtain ⟨yl, hyl⟩ : ∃ u, u = bsB x.alias := ⟨_, rfl⟩
            obtain ⟨yk, hyk⟩ : ∃ u, u = x.kind := ⟨_, rfl⟩
            obtain ⟨yn, hyn⟩ : ∃ u, u = x.on.length := ⟨_, rfl⟩
            rw [← hyt] at f0 ht
            rw [← hyl] at f1 hl
            rw [← hyk] at f2 hk0 hk1
            rw [← hyn] at f3 hk1
            obtain ⟨V, hV⟩ : ∃ V, V = wr.alloc (.cells #[.string yt, .string yl, .int .i64 yk, .slice pf yn cf] 40) := ⟨_, rfl⟩
            have K3 : BkA V wr.heap.size [.string yt, .string yl, .int .i64 yk, .slice pf yn cf] := by rw [hV]; exact BkA.new wr [.string yt, .string yl, .int .i64 yk, .slice pf yn cf] 40
            have bV : Below wr.heap.size wr V := by rw [hV]; exact ext_alloc (ext_refl _) _
            have KV := Lib.hid K3
            have BV := Lib.hid (BS.out.trans (bV.mono BS.out.size))
            have HWK := Lib.hid (wrapk9 (k := k) (Nat.lt_of_lt_of_le hlt2 h2.2))
            have HKN := Lib.hid (show k + 1 ≤ fn from hlt2)
            have HK6 := Lib.hid (Nat.lt_of_lt_of_le hlt2 h2.2)
            have HV := Lib.hid hV
            clear hx hyt hyl hyk hyn hSf K3 bV hV hcf
            go_upto_region 18 with fail
            rw [← HV.out]
            clear HV f0 f1 f2 f3 lu u2 lgf
            obtain ⟨g3, hg3⟩ : ∃ g, g = wr.heap.size := ⟨_, rfl⟩
            rw [← hg3] at KV ⊢
            clear hg3
            have lv := KV.out.lt
            have v0 := KV.out.c 0 _ rfl
            have v1 := KV.out.c 1 _ rfl
            have v2 := KV.out.c 2 _ rfl
            have v3 := KV.out.c 3 _ rfl
            by_cases hkm : k < m0
            · have k0 : yk = 0 := hk0 hkm
              have hd1 : decide (k ≤ m0) = true := decide_eq_true (Nat.le_of_lt hkm)
              have HD2 := Lib.hid (show decide (k + 1 ≤ m0) = true from decide_eq_true hkm)
              have HD3 := Lib.hid (show decide (1 ≤ m0) = true from decide_eq_true hm1)
              subst k0
              rw [hd1]
              clear hk0 hk1 hd1 hkm
              obtain rfl | hkp := Nat.eq_zero_or_pos k
              · clear hlt2
                go_wp2_with fail
                case roundEnd => exact ⟨⟨1, by rw [HD3.out], rfl, HKN.out, BV.out⟩, by show 10 - (1 : Int).toNat < 10 - (0 : Int).toNat; decide⟩
              · have k2 := nz9 (m0 := k) (Nat.lt_irrefl k) hkp
                clear hkp hlt2
                go_wp2_with fail
                case roundEnd => exact ⟨⟨k + 1, by rw [HD2.out], by rw [Int.natCast_succ], HKN.out, BV.out⟩, meas9 HK6.out⟩
            · obtain ⟨k0, k1⟩ := hk1 (Nat.le_of_not_lt hkm)
              have HD2 := Lib.hid (show decide (k + 1 ≤ m0) = false from decide_eq_false hkm)
              have e0 : ((yk : Int) == 0) = false := by rw [beq_eq_false_iff_ne]; exact k0
              have e1 : ((yk : Int) != 0) = true := by rw [bne, e0]; rfl
              have k2 := nz9 hkm hm1
              subst k1
              obtain ⟨bi, hbi⟩ : ∃ b, b = decide (k ≤ m0) := ⟨_, rfl⟩
              rw [← hbi]
              clear hk0 hk1 hkm k0 hbi hlt2
              go_upto_region 20 with fail
              cases bi with
              | true =>
                go_wp2_with fail
                case roundEnd => exact ⟨⟨k + 1, by rw [HD2.out], by rw [Int.natCast_succ], HKN.out, BV.out⟩, meas9 HK6.out⟩
              | false =>
                go_wp2_with fail
                case roundEnd => exact ⟨⟨k + 1, by rw [HD2.out], by rw [Int.natCast_succ], HKN.out, BV.out⟩, meas9 HK6.out⟩
          · have hk' : k = fn := by omega
            subst hk'
            go_wp2_with fail
            case roundEnd => exact ⟨⟨i + 1, by rw [Int.natCast_succ], by omega, BU.out.trans (BS.out.mono BU.out.size)⟩, by show 10 - ((i : Int) + 1).toNat < 10 - (i : Int).toNat; omega⟩
      · have hi' : i = ns := by omega
        subst hi'
        go_wp2_with fail
        exact bodyPost_ret (v := .bool true) (by simp [results, Tryz.results4, go_sem]) rfl ⟨rfl, BA.out.trans (BR.out.mono BA.out.size)⟩

end Go.Proofs.YtgmmbfcjjgehoaaGreatDoor
