/- Statement VecRules: its walk, and what it says of lists of numbers. -/
import Derived.Test.YtoigdbllpiffmaaVecLaw
namespace Go.Proofs.Ytoigdbllpiffmaa
open Go.RowKit

theorem lower_iff (xs ys : List Int) : lower xs ys = true ↔ ∀ k, k < xs.length → xs[k]?.getD 0 ≤ ys[k]?.getD 0 := by
  unfold lower
  rw [List.all_eq_true]
  constructor
  · intro h k hk
    simpa using h k (by simpa using hk)
  · intro h k hk
    simpa using h k (by simpa using hk)

theorem greater_length (xs ys : List Int) : (greater xs ys).length = xs.length := by simp [greater]

theorem greater_get (xs ys : List Int) (k : Nat) (h : k < xs.length) : (greater xs ys)[k]?.getD 0 = larger (xs[k]?.getD 0) (ys[k]?.getD 0) := by
  simp [greater, h]

theorem larger_le (a b c : Int) : larger a b ≤ c ↔ a ≤ c ∧ b ≤ c := by
  unfold larger
  split <;> omega

theorem inside_iff (xs : List Int) (a b : Int) : inside xs a b = true ↔ ∀ k, k < xs.length → a ≤ xs[k]?.getD 0 ∧ xs[k]?.getD 0 ≤ b := by
  unfold inside
  rw [List.all_eq_true]
  constructor
  · intro h k hk
    have := h xs[k] (List.getElem_mem hk)
    simpa [List.getElem?_eq_getElem hk] using this
  · intro h x hx
    obtain ⟨k, hk, rfl⟩ := List.getElem_of_mem hx
    have := h k hk
    simpa [List.getElem?_eq_getElem hk] using this

theorem vecMay_iff (xs : List Int) : vecMay xs = true ↔ (1 ≤ xs.length ∧ xs.length ≤ 16) ∧ inside xs 0 256 = true := by
  simp only [vecMay, Bool.and_eq_true, decide_eq_true_eq]
  exact ⟨fun h => ⟨⟨h.1, h.2.1⟩, h.2.2⟩, fun h => ⟨h.1.1, h.1.2, h.2⟩⟩

theorem pairMay_iff (xs ys : List Int) : pairMay xs ys = true ↔ vecMay xs = true ∧ vecMay ys = true ∧ xs.length = ys.length := by
  simp only [pairMay, Bool.and_eq_true, decide_eq_true_eq]

theorem vecMay_greater {xs ys : List Int} (h : pairMay xs ys = true) : vecMay (greater xs ys) = true := by
  obtain ⟨h1, h2, h3⟩ := (pairMay_iff _ _).1 h
  obtain ⟨hl, hi⟩ := (vecMay_iff _).1 h1
  obtain ⟨_, hj⟩ := (vecMay_iff _).1 h2
  refine (vecMay_iff _).2 ⟨by rw [greater_length]; exact hl, (inside_iff _ _ _).2 fun k hk => ?_⟩
  rw [greater_length] at hk
  rw [greater_get _ _ _ hk]
  have a := (inside_iff _ _ _).1 hi k hk
  have b := (inside_iff _ _ _).1 hj k (by omega)
  unfold larger
  split <;> omega

theorem lower_greater {xs ys : List Int} (h : xs.length = ys.length) : lower xs (greater xs ys) = true ∧ lower ys (greater xs ys) = true := by
  constructor
  · rw [lower_iff]
    intro k hk
    rw [greater_get _ _ _ hk]
    exact ((larger_le _ _ _).1 (Int.le_refl _)).1
  · rw [lower_iff]
    intro k hk
    rw [greater_get _ _ _ (by omega)]
    exact ((larger_le _ _ _).1 (Int.le_refl _)).2

theorem greater_lower {xs ys zs : List Int} (h : xs.length = ys.length) : lower (greater xs ys) zs = (lower xs zs && lower ys zs) := by
  rw [Bool.eq_iff_iff, Bool.and_eq_true, lower_iff, lower_iff, lower_iff, greater_length]
  constructor
  · intro hh
    refine ⟨fun k hk => ?_, fun k hk => ?_⟩
    · have := hh k hk
      rw [greater_get _ _ _ hk] at this
      exact ((larger_le _ _ _).1 this).1
    · have := hh k (by omega)
      rw [greater_get _ _ _ (by omega)] at this
      exact ((larger_le _ _ _).1 this).2
  · rintro ⟨h1, h2⟩ k hk
    rw [greater_get _ _ _ hk]
    exact (larger_le _ _ _).2 ⟨h1 k hk, h2 k (by omega)⟩

theorem lower_same {xs ys : List Int} (h : xs.length = ys.length) : decide (xs = ys) = (lower xs ys && lower ys xs) := by
  rw [Bool.eq_iff_iff, Bool.and_eq_true, lower_iff, lower_iff, decide_eq_true_eq]
  constructor
  · rintro rfl
    exact ⟨fun _ _ => Int.le_refl _, fun _ _ => Int.le_refl _⟩
  · rintro ⟨h1, h2⟩
    refine List.ext_getElem h fun k a b => ?_
    have x := h1 k a
    have y := h2 k b
    simp [List.getElem?_eq_getElem a, List.getElem?_eq_getElem b] at x y
    omega

theorem lower_trans {xs ys zs : List Int} (h : xs.length = ys.length) (h1 : lower xs ys = true) (h2 : lower ys zs = true) : lower xs zs = true := by
  rw [lower_iff] at h1 h2 ⊢
  intro k hk
  exact Int.le_trans (h1 k hk) (h2 k (by omega))

set_option maxRecDepth 100000 in
set_option maxHeartbeats 4000000 in
theorem VecRules_law {w : World} (A0 : Option Addr) (n0 c0 : Nat) (xs : List Int) (w0 : IntsIn w A0 n0 c0 xs) (A1 : Option Addr) (n1 c1 : Nat) (ys : List Int) (w1 : IntsIn w A1 n1 c1 ys) (A2 : Option Addr) (n2 c2 : Nat) (zs : List Int) (w2 : IntsIn w A2 n2 c2 zs) :
    Calls Try.prog 4 #[.slice A0 n0 c0, .slice A1 n1 c1, .slice A2 n2 c2] w fun e w' => e = .returned (.bool true) ∧ Below w.heap.size w w' := by
  obtain ⟨hx, hn0, hc0, _, _⟩ := w0
  obtain ⟨hy, hn1, hc1, _, _⟩ := w1
  obtain ⟨hz, hn2, hc2, _, _⟩ := w2
  have m0 : n0 ≤ maxLen := (by unfold maxLen; omega)
  have m1 : n1 ≤ maxLen := (by unfold maxLen; omega)
  have m2 : n2 ≤ maxLen := (by unfold maxLen; omega)
  have hl0 := hid hx.len
  have hl1 := hid hy.len
  have hl2 := hid hz.len
  go_enter Try.func4, Try.ntmps4
  go_wp2_with fail
  refine (awake18_any _).mono ?_
  rintro e W1 ⟨rfl, hB1⟩
  have hx1 := (hx.below hB1).more hB1.size
  have hy1 := (hy.below hB1).more hB1.size
  have hz1 := (hz.below hB1).more hB1.size
  clear hx hy hz
  go_wp2_with fail
  cases hp : pairMay xs ys with
  | false =>
    refine (Join_any _ _ _ xs _ _ _ ys [] 1800 (by simp [joinAns, hp]) _ hx1 m0 hy1 m1).mono ?_
    rintro e W2 ⟨A3, n3, c3, rfl, hj, hn3, hb3⟩
    clear hp
    go_wp2_with (go_at_call 23; refine (Num_any _ _).mono ?_; rintro e w' ⟨rfl, rfl⟩)
    go_ret
    exact ⟨rfl, hB1.trans (hb3.mono hB1.size)⟩
  | true =>
    refine (Join_any _ _ _ xs _ _ _ ys (greater xs ys) 0 (by simp [joinAns, hp]) _ hx1 m0 hy1 m1).mono ?_
    rintro e W2 ⟨A3, n3, c3, rfl, hj, hn3, hb3⟩
    have hx2 := (hx1.below hb3).more hb3.size
    have hy2 := (hy1.below hb3).more hb3.size
    have hz2 := (hz1.below hb3).more hb3.size
    have hB2 : Below w.heap.size w W2 := hB1.trans (hb3.mono hB1.size)
    have m3 : n3 ≤ maxLen := (by unfold maxLen; omega)
    clear hx1 hy1 hz1 hB1 hb3
    have hpp := hid hp
    clear hp
    by_cases hn : n2 = n0
    · subst hn
      cases hv : vecMay zs with
      | false =>
        go_wp2_with (go_at_call 23; refine (Num_any _ _).mono ?_; rintro e w' ⟨rfl, rfl⟩)
        refine (may_any _ _ _ zs _ _ hz2 m2).mono ?_
        rintro e W5 ⟨he, rfl⟩
        rw [hv] at he
        subst he
        clear hv
        go_wp2
        go_ret
        exact ⟨rfl, hB2⟩
      | true =>
        have hlx : zs.length = xs.length := by rw [hl0.out, hl2.out]
        have hpl := (pairMay_iff _ _).1 hpp.out
        have hxz : pairMay xs zs = true := (pairMay_iff _ _).2 ⟨hpl.1, hv, hlx.symm⟩
        have hyz : pairMay ys zs = true := (pairMay_iff _ _).2 ⟨hpl.2.1, hv, by omega⟩
        have hyx : pairMay ys xs = true := (pairMay_iff _ _).2 ⟨hpl.2.1, hpl.1, by omega⟩
        have hxj : pairMay xs (greater xs ys) = true := (pairMay_iff _ _).2 ⟨hpl.1, vecMay_greater hpp.out, by rw [greater_length]⟩
        have hyj : pairMay ys (greater xs ys) = true := (pairMay_iff _ _).2 ⟨hpl.2.1, vecMay_greater hpp.out, by rw [greater_length]; omega⟩
        have hjz : pairMay (greater xs ys) zs = true := (pairMay_iff _ _).2 ⟨vecMay_greater hpp.out, hv, by rw [greater_length]; omega⟩
        have eP := hid (show belowAns xs (greater xs ys) = (true, 0) by simp [belowAns, hxj, (lower_greater hpl.2.2).1])
        have eQ := hid (show belowAns ys (greater xs ys) = (true, 0) by simp [belowAns, hyj, (lower_greater hpl.2.2).2])
        have eR := hid (show belowAns xs zs = (lower xs zs, 0) by simp [belowAns, hxz])
        have eS := hid (show belowAns ys zs = (lower ys zs, 0) by simp [belowAns, hyz])
        have eT := hid (show belowAns (greater xs ys) zs = (lower xs zs && lower ys zs, 0) by simp [belowAns, hjz, greater_lower hpl.2.2])
        have eU := hid (show belowAns xs ys = (lower xs ys, 0) by simp [belowAns, hpp.out])
        have eV := hid (show belowAns ys xs = (lower ys xs, 0) by simp [belowAns, hyx])
        have eW := hid (show apartAns xs ys = (!lower xs ys && !lower ys xs, 0) by simp [apartAns, hpp.out])
        have eE := hid (lower_same hpl.2.2)
        have eL := hid (show lower xs ys = true → lower ys zs = true → lower xs zs = true from lower_trans hpl.2.2)
        clear hxz hyz hyx hxj hyj hjz hpl hlx
        go_wp2_with (go_at_call 23; refine (Num_any _ _).mono ?_; rintro e w' ⟨rfl, rfl⟩)
        refine (may_any _ _ _ zs _ _ hz2 m2).mono ?_
        rintro e W5 ⟨he, rfl⟩
        rw [hv] at he
        subst he
        clear hv
        go_wp2_with fail
        refine (Below_any _ _ _ _ _ _ _ _ _ _ eP.out _ _ hx2 m0 hj m3).mono ?_
        rintro e W6 ⟨rfl, k1, rfl⟩
        go_wp2_with fail
        refine (Below_any _ _ _ _ _ _ _ _ _ _ eQ.out _ _ (hy2.drewN _) m1 (hj.drewN _) m3).mono ?_
        rintro e W6 ⟨rfl, k2, rfl⟩
        go_wp2_with fail
        refine (Below_any _ _ _ _ _ _ _ _ _ _ eR.out _ _ (hx2.drewN _) m0 (hz2.drewN _) m2).mono ?_
        rintro e W6 ⟨rfl, k3, rfl⟩
        go_wp2_with fail
        refine (Below_any _ _ _ _ _ _ _ _ _ _ eS.out _ _ (hy2.drewN _) m1 (hz2.drewN _) m2).mono ?_
        rintro e W6 ⟨rfl, k4, rfl⟩
        go_wp2_with fail
        refine (Below_any _ _ _ _ _ _ _ _ _ _ eT.out _ _ (hj.drewN _) m3 (hz2.drewN _) m2).mono ?_
        rintro e W6 ⟨rfl, k5, rfl⟩
        go_wp2_with fail
        refine (Below_any _ _ _ _ _ _ _ _ _ _ eU.out _ _ (hx2.drewN _) m0 (hy2.drewN _) m1).mono ?_
        rintro e W6 ⟨rfl, k6, rfl⟩
        go_wp2_with fail
        refine (Below_any _ _ _ _ _ _ _ _ _ _ eV.out _ _ (hy2.drewN _) m1 (hx2.drewN _) m0).mono ?_
        rintro e W6 ⟨rfl, k7, rfl⟩
        go_wp2_with fail
        refine (Apart_any _ _ _ _ _ _ _ _ _ _ eW.out _ _ (hx2.drewN _) m0 (hy2.drewN _) m1).mono ?_
        rintro e W6 ⟨rfl, k8, rfl⟩
        clear eP eQ eR eS eT eU eV eW
        have cE := hid (fun k => SameInts_any A0 n2 c0 xs A1 n1 c1 ys _ eE.out _ (W5.drewN k) (hx2.drewN _) m0 (hy2.drewN _) m1)
        clear eE hpp
        generalize lower xs ys = u at *
        generalize lower ys xs = v at *
        generalize lower xs zs = r at *
        generalize lower ys zs = s at *
        cases u <;> cases v <;> cases r <;> cases s
        all_goals first
          | (exfalso; have := eL.out rfl rfl; cases this; done)
          | (go_wp2_with (refine (cE.out _).mono ?_; rintro e W7 ⟨rfl, k9, rfl⟩)
             go_ret
             exact ⟨rfl, below_drewN hB2 _⟩)
    · go_wp2_with (go_at_call 23; refine (Num_any _ _).mono ?_; rintro e w' ⟨rfl, rfl⟩)
      go_ret
      exact ⟨rfl, hB2⟩

end Go.Proofs.Ytoigdbllpiffmaa
