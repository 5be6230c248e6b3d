/- The statement MerkleParts: its walk. -/
import Derived.Test.YtenfhmpjhbpkpaaMlI
namespace Go.Proofs.Ytenfhmpjhbpkpaa
open Go.RowKit
open Go.Lib (strCells strCells_length strCells_oneCell)
attribute [local irreducible] Sha.compress Sha.blocks Sha.sha Sha.pad

theorem cut_parts (a m : Nat) (h1 : 1 ≤ m) (h2 : m ≤ 2 ^ a) : Mth.cut (2 ^ a + m) = 2 ^ a := Mth.cut_eq _ a (by omega) (by omega)

theorem root_parts (xs ys : List ByteArray) (a : Nat) (hx : xs.length = 2 ^ a) (h1 : 1 ≤ ys.length) (h2 : ys.length ≤ 2 ^ a) : rootH (xs ++ ys) = nodeH (rootH xs) (rootH ys) := by
  have hp : 1 ≤ 2 ^ a := Nat.pow_pos (by decide)
  have hl : (xs ++ ys).length = 2 ^ a + ys.length := by rw [List.length_append, hx]
  rw [rootH_two _ (by omega), hl, cut_parts a _ h1 h2, ← hx, List.take_left, List.drop_left]

theorem pow_room (a n : Nat) (h : 2 ^ a ≤ n) (hn : n * 16 ≤ 140737488351232) : 2 ^ a ≤ 4398046511104 := by
  rcases Nat.lt_or_ge 42 a with h1 | h1
  · have h2 := Nat.pow_le_pow_right (n := 2) (by decide) h1
    have h3 : 2 ^ (42 + 1) = 8796093022208 := by decide
    rw [h3] at h2
    omega
  · have h2 := Nat.pow_le_pow_right (n := 2) (by decide) h1
    have h3 : 2 ^ 42 = 4398046511104 := by decide
    rw [h3] at h2
    exact h2

set_option maxRecDepth 100000 in
set_option maxHeartbeats 6000000 in
theorem MerkleParts_law {w : World} (A : Option Addr) (n c : Nat) (xs : List ByteArray) (hx : TextsIn w A n c xs) (A' : Option Addr) (n' c' : Nat) (ys : List ByteArray) (hy : TextsIn w A' n' c' ys) :
    Calls Try.prog 4 #[.slice A n c, .slice A' n' c'] w fun e w' => e = .returned (.bool true) ∧ Below w.heap.size w w' := by
  obtain ⟨hX0, hnc, hn16, hnil, hs⟩ := hx
  obtain ⟨hY0, hnc', hn16', hnil', hs2⟩ := hy
  have hlen := hX0.len
  have hlen' := hY0.len
  have hX0' := hid hX0
  have hY0' := hid hY0
  have hs' := hid hs
  have hs2' := hid hs2
  have hnl := hid hnil
  have hnl' := hid hnil'
  clear hX0 hs hnil hY0 hs2 hnil'
  go_enter Try.func4, Try.ntmps4
  go_wp2_with fail
  refine (awake9_any _).mono ?_
  rintro e W1 ⟨rfl, hb1⟩
  have hb1' := hid hb1
  clear hb1
  go_wp2_with fail
  go_loopw [5] (fun v wr => ∃ a : Nat, v = .int .i64 ((2 ^ a : Nat) : Int) ∧ (2 ^ a ≤ n ∨ a = 0) ∧ Below w.heap.size w wr) (fun v _ => n - (intOf v).toNat)
  case atStart => exact ⟨0, rfl, .inr rfl, hb1'.out⟩
  case round =>
    obtain ⟨a, rfl, ha, hB⟩ := hrel
    have hB' := hid hB
    have hp : 1 ≤ 2 ^ a := Nat.pow_pos (by decide)
    have hpn := hid (Nat.pow_succ 2 a)
    have ha' := hid ha
    have hpr := hid (fun (h : 2 ^ a ≤ n) => pow_room a n h hn16)
    have hrp := hid (fun us vs => root_parts us vs a)
    have ha0 : a = 0 → 2 ^ a = 1 := fun e => by rw [e]
    have hbig : 2 ^ a ≤ 8796093022208 := by
      rcases ha with h | h
      · omega
      · have := ha0 h
        omega
    have hra := hid (fun (h : 2 * 2 ^ a ≤ n) => show ∃ b : Nat, ((2 * 2 ^ a : Nat) : Int) = ((2 ^ b : Nat) : Int) ∧ (2 ^ b ≤ n ∨ b = 0) from ⟨a + 1, by rw [hpn.out, Nat.mul_comm], .inl (by rw [hpn.out]; omega)⟩)
    have ha1 : 1 ≤ n → 2 ^ a ≤ n := fun h1 => by
      rcases ha with h | h
      · exact h
      · rw [ha0 h]; exact h1
    have ha1' := hid ha1
    clear hB ha ha' hpn ha0 ha1 hb1'
    generalize 2 ^ a = k at *
    have hkw := IntWalk.i64_in (2 * (k : Int)) (by omega)
    by_cases hlt : 2 * k ≤ n
    · have hlt' : 2 * (k : Int) ≤ (n : Int) := by omega
      go_wp2_with fail
      go_roundw
      case rel =>
        obtain ⟨b, hb, hbn⟩ := hra.out hlt
        refine ⟨b, ?_, hbn, hB'.out⟩
        rw [← hb]
        go_num
      case measure => simp [intOf]; omega
    · have hlt' : ¬ 2 * (k : Int) ≤ (n : Int) := by omega
      by_cases hn0 : n = 0
      · subst hn0
        go_wp2_with fail
        go_ret
        exact ⟨rfl, hB'.out⟩
      · have h1 : ((n : Int) == 0) = false := by rw [beq_eq_false_iff_ne]; omega
        by_cases hn0' : n' = 0
        · subst hn0'
          go_wp2_with fail
          go_ret
          exact ⟨rfl, hB'.out⟩
        · have h2 : ((n' : Int) == 0) = false := by rw [beq_eq_false_iff_ne]; omega
          have hkn := ha1'.out (by omega)
          have hk42 := hpr.out hkn
          obtain ⟨p, rfl⟩ : ∃ p, A = some p := by
            obtain ⟨p, e, -⟩ := hX0'.out.get (show 0 < n by omega)
            exact ⟨p, e⟩
          obtain ⟨p', rfl⟩ : ∃ p, A' = some p := by
            obtain ⟨p, e, -⟩ := hY0'.out.get (show 0 < n' by omega)
            exact ⟨p, e⟩
          obtain ⟨m, hm⟩ : ∃ m, min n' k = m := ⟨_, rfl⟩
          have hm1 : 1 ≤ m := by omega
          have hmk : m ≤ k := by omega
          have hmn : m ≤ n' := by omega
          have hmin : min (n' : Int) (k : Int) = (m : Int) := by omega
          have hkc : (k : Int) ≤ (c : Int) := by omega
          have hmc : (m : Int) ≤ (c' : Int) := by omega
          have hk0 : (0 : Int) ≤ (k : Int) := by omega
          have hm0 : (0 : Int) ≤ (m : Int) := by omega
          have hto : (k : Int).toNat = k := by omega
          have hto2 : (m : Int).toNat = m := by omega
          have hXa := hid (fun W (h : Below w.heap.size w W) => (hX0'.out.below h).take hkn)
          have hYb := hid (fun W (h : Below w.heap.size w W) => (hY0'.out.below h).take hmn)
          have hla : (xs.take k).length = k := by rw [List.length_take]; omega
          have hlb : (ys.take m).length = m := by rw [List.length_take]; omega
          have hrt := hrp.out (xs.take k) (ys.take m) hla (by omega) (by omega)
          have hsa := hid (fun s (hs : s ∈ xs.take k) => hs'.out s (List.mem_of_mem_take hs))
          have hsb := hid (fun s (hs : s ∈ ys.take m) => hs2'.out s (List.mem_of_mem_take hs))
          have hnl2 := hnl'.out
          generalize xs.take k = us at *
          generalize ys.take m = vs at *
          clear hra ha1' hpr hrp hm hX0' hY0' hs' hs2' hnl hnl'
          go_wp2_with fail
          refine wp_region_held_drew (S := fun _ => True) (by kernel_rfl) (by exact True.intro) (fun hHeld => ?_)
          refine wpAnyH_take (i := 0) (v := .slice (some p) n c) rfl (by kernel_rfl) (by kernel_rfl) (by kernel_rfl) (fun _ _ _ h => h) (yieldsIf_move _ rfl rfl rfl) hHeld ?_
          simp only [List.getElem_toArray, List.getElem_cons_succ, List.getElem_cons_zero, Act.put, List.setIfInBounds_toArray, List.set_cons_zero, List.set_cons_succ]
          refine wpAnyH_take (i := 1) (v := .int .i64 (k : Int)) rfl (by kernel_rfl) (by kernel_rfl) (by kernel_rfl) (fun _ _ _ h => h) (yieldsIf_move _ rfl rfl rfl) hHeld ?_
          simp only [List.getElem_toArray, List.getElem_cons_succ, List.getElem_cons_zero, Act.put, List.setIfInBounds_toArray, List.set_cons_zero, List.set_cons_succ]
          refine wpAnyH_take (i := 2) (v := .slice (some p) k c) rfl (by kernel_rfl) (by kernel_rfl) (by kernel_rfl) (fun _ _ _ h => h) (.inl ⟨by kernel_rfl, fun w _ => by go_simp⟩) hHeld ?_
          simp only [List.getElem_toArray, List.getElem_cons_succ, List.getElem_cons_zero, Act.put, List.setIfInBounds_toArray, List.set_cons_zero, List.set_cons_succ]
          refine wpAnyH_take (i := 3) (v := .slice (some p') n' c') rfl (by kernel_rfl) (by kernel_rfl) (by kernel_rfl) (fun _ _ _ h => h) (yieldsIf_move _ rfl rfl rfl) hHeld ?_
          simp only [List.getElem_toArray, List.getElem_cons_succ, List.getElem_cons_zero, Act.put, List.setIfInBounds_toArray, List.set_cons_zero, List.set_cons_succ]
          refine wpAnyH_take (i := 4) (v := .slice (some p') n' c') rfl (by kernel_rfl) (by kernel_rfl) (by kernel_rfl) (fun _ _ _ h => h) (yieldsIf_move _ rfl rfl rfl) hHeld ?_
          simp only [List.getElem_toArray, List.getElem_cons_succ, List.getElem_cons_zero, Act.put, List.setIfInBounds_toArray, List.set_cons_zero, List.set_cons_succ]
          refine wpAnyH_take (i := 5) (v := .int .i64 (n' : Int)) rfl (by kernel_rfl) (by kernel_rfl) (by kernel_rfl) (fun _ _ _ h => h) (.inl ⟨by kernel_rfl, fun w _ => by go_simp⟩) hHeld ?_
          simp only [List.getElem_toArray, List.getElem_cons_succ, List.getElem_cons_zero, Act.put, List.setIfInBounds_toArray, List.set_cons_zero, List.set_cons_succ]
          refine wpAnyH_take (i := 6) (v := .int .i64 (k : Int)) rfl (by kernel_rfl) (by kernel_rfl) (by kernel_rfl) (fun _ _ _ h => h) (yieldsIf_move _ rfl rfl rfl) hHeld ?_
          simp only [List.getElem_toArray, List.getElem_cons_succ, List.getElem_cons_zero, Act.put, List.setIfInBounds_toArray, List.set_cons_zero, List.set_cons_succ]
          refine wpAnyH_take (i := 7) (v := .int .i64 (m : Int)) rfl (by kernel_rfl) (by kernel_rfl) (by kernel_rfl) (fun _ _ _ h => h) (.inl ⟨by kernel_rfl, fun w _ => by go_simp⟩) hHeld ?_
          simp only [List.getElem_toArray, List.getElem_cons_succ, List.getElem_cons_zero, Act.put, List.setIfInBounds_toArray, List.set_cons_zero, List.set_cons_succ]
          refine wpAnyH_take (i := 8) (v := .slice (some p') m c') rfl (by kernel_rfl) (by kernel_rfl) (by kernel_rfl) (fun _ _ _ h => h) (.inl ⟨by kernel_rfl, fun w _ => by go_simp⟩) hHeld ?_
          simp only [List.getElem_toArray, List.getElem_cons_succ, List.getElem_cons_zero, Act.put, List.setIfInBounds_toArray, List.set_cons_zero, List.set_cons_succ]
          refine wpAnyH_take (i := 9) (v := .slice (some p) k c) rfl (by kernel_rfl) (by kernel_rfl) (by kernel_rfl) (fun _ _ _ h => h) (yieldsIf_assign _ rfl rfl rfl) hHeld ?_
          simp only [List.getElem_toArray, List.getElem_cons_succ, List.getElem_cons_zero, Act.put, List.setIfInBounds_toArray, List.set_cons_zero, List.set_cons_succ]
          refine wpAnyH_take (i := 10) (v := .slice (some p') m c') rfl (by kernel_rfl) (by kernel_rfl) (by kernel_rfl) (fun _ _ _ h => h) (yieldsIf_assign _ rfl rfl rfl) hHeld ?_
          simp only [List.getElem_toArray, List.getElem_cons_succ, List.getElem_cons_zero, Act.put, List.setIfInBounds_toArray, List.set_cons_zero, List.set_cons_succ]
          refine wpAnyH_done (by kernel_rfl) ?_ _
          have hBd := hid hB'.out.drew
          generalize wr.drew = W2 at *
          have hsz2 := hBd.out.size
          obtain ⟨i0, hi, hz0, hz1, hz2⟩ := info_parts Try.infoStr
          go_wp2_with (first
            | (at_builtin; refine wpList_appends rfl (.tmp 37) (.tmp 38) 22 9 rfl w.heap.size i0 (.string ByteArray.empty) 1 16 Try.underlying22 hi hz0 hz1 hz2 rfl (by decide) (some ⟨W2.heap.size, 0, none⟩) 0 0 [] w.heap.size (some p) k c (strs us) rfl rfl (fun h => by cases h) (strs_one _) (by omega) (by omega) ?_ ?_ (by first | (simp; done) | (simp; omega) | omega) ?_; rotate_right; intro A6 c6 w6 hown6 hb6 hg6; rotate_left; (exact World.ownsRow_lit W2 #[] 0 hBd.out.size (by decide) rfl); (exact hXa.out _ (hBd.out.alloc hBd.out.size _)); rw [Nat.zero_add, List.nil_append] at hown6; have hB6 := hid ((hBd.out.alloc hBd.out.size _).trans hb6); have hown6' := hid hown6; have hsz6 := hB6.out.size; clear hown6 hb6 hg6)
            | (at_builtin; refine wpList_appends rfl (.tmp 39) (.tmp 40) 22 9 rfl w.heap.size i0 (.string ByteArray.empty) 1 16 Try.underlying22 hi hz0 hz1 hz2 rfl (by decide) A6 k c6 (strs us) w.heap.size (some p') m c' (strs vs) rfl rfl (fun h => by cases h) (strs_one _) (by omega) (by omega) ?_ ?_ (by first | (simp; done) | (simp; omega) | omega) ?_; rotate_right; intro A7 c7 w7 hown7 hb7 hg7; rotate_left; (exact hown6'.out); (exact hYb.out _ hB6.out); have hB7 := hid (hB6.out.trans hb7); have hown7' := hid hown7; clear hown7 hb7 hg7))
          have hA := hid (hash_root us)
          have hBh := hid (hash_root vs)
          have hN := hid (hash_root (us ++ vs))
          have hC := hid (hash_cells _ (nodeH_len (rootH us) (rootH vs)))
          have hra := hid (fun W (h : Below w.heap.size w W) => mRoot_any (some p) k c us W ((hXa.out W h).more h.size) (by omega) hsa.out)
          have hrb := hid (fun W (h : Below w.heap.size w W) => mRoot_any (some p') m c' vs W ((hYb.out W h).more h.size) (by omega) hsb.out)
          have hall := hid (fun s (hs : s ∈ us ++ vs) => by
            rcases List.mem_append.1 hs with h | h
            · exact hsa.out s h
            · exact hsb.out s h : ∀ s, s ∈ us ++ vs → s.size ≤ 140737488351232)
          have hX7 : Texts w7 w7.heap.size A7 (k + m) (us ++ vs) := by
            unfold Texts
            rw [strs_append]
            exact At.of_own hown7'.out
          have hrn := hid (fun W (h : Below w7.heap.size w7 W) => mRoot_any A7 (k + m) c7 (us ++ vs) W ((hX7.below h).more h.size) (by omega) hall.out)
          rw [hrt] at hrn
          have ht1 := hid (fun W => tT_any (rootH us) (rootH_len _) W)
          have ht2 := hid (fun W => tT_any (rootH vs) (rootH_len _) W)
          have hsh := hid (fun W => rsha_any (nodeT (rootH us) (rootH vs)) W (by rw [nodeT_size _ _ (rootH_len _) (rootH_len _)]; omega))
          unfold hashV at hsh
          rw [nodeT_sha] at hsh
          have hcat1 : 1 + (txt (rootH us)).size ≤ 9223372036854775807 := by rw [txt_size, rootH_len]; decide
          have hcat2 : 1 + (txt (rootH us)).size + (txt (rootH vs)).size ≤ 9223372036854775807 := by rw [txt_size, txt_size, rootH_len, rootH_len]; decide
          have hnt : ⟨#[1]⟩ ++ txt (rootH us) ++ txt (rootH vs) = nodeT (rootH us) (rootH vs) := rfl
          have hnt' := hid hnt
          unfold hv at hra hrb hrn ht1 ht2
          clear hnt hX7 hrt hXa hYb hown6' hN
          generalize byteCells (nodeH (rootH us) (rootH vs)) = cn at *
          generalize nodeT (rootH us) (rootH vs) = NT at *
          generalize byteCells (rootH us) = ca at *
          generalize byteCells (rootH vs) = cb at *
          generalize txt (rootH us) = ta at *
          generalize txt (rootH vs) = tb at *
          refine (hra.out _ hB7.out).mono ?_
          rintro e W8 ⟨rfl, hb8⟩
          have hB8 := hid (hB7.out.trans (hb8.mono hB7.out.size))
          have hv8 := hid hb8
          clear hb8
          rename_i hK1
          refine hK1 _ _ ?_
          clear hK1
          go_wp2_with fail
          refine (hrb.out _ hB8.out).mono ?_
          rintro e W9 ⟨rfl, hb9⟩
          have hB9 := hid (hB8.out.trans (hb9.mono hB8.out.size))
          have hv9 := hid (below_up hb9 hv8.out)
          clear hb9
          rename_i hK1
          refine hK1 _ _ ?_
          clear hK1
          obtain ⟨V, hV⟩ : ∃ V, (W9.alloc (.cells z32 28)).alloc (.cells z32 28) = V := ⟨_, rfl⟩
          have hs9 : (W9.alloc (.cells z32 28)).heap.size = W9.heap.size + 1 := by simp
          have hV1 : Holds V W9.heap.size 28 z32.toList := by rw [← hV]; exact (Holds.new W9 28 z32).alloc _
          have hV2 : Holds V (W9.heap.size + 1) 28 z32.toList := by rw [← hV, ← hs9]; exact Holds.new (W9.alloc (.cells z32 28)) 28 z32
          have hVb : Below W9.heap.size W9 V := by rw [← hV]; exact ((Below.refl _ _).alloc (Nat.le_refl _) _).alloc (by simp) _
          have hV' := hid hV
          have hV1' := hid hV1
          have hV2' := hid hV2
          have hVb' := hid hVb
          clear hV hV1 hV2 hVb
          go_wp2_with (first
            | ((with_reducible refine at_slot (some 9) ?_); refine wpList_run rfl (.pointer (some ⟨W9.heap.size, 0, none⟩)) (W9.alloc (.cells z32 28)) (by kernel_rfl) ?_)
            | ((with_reducible refine at_slot (some 10) ?_); refine wpList_run rfl (.pointer (some ⟨(W9.alloc (.cells z32 28)).heap.size, 0, none⟩)) ((W9.alloc (.cells z32 28)).alloc (.cells z32 28)) (by kernel_rfl) ?_; rw [hV'.out, hs9])
            | ((with_reducible refine at_slot none ?_); refine wpList_store_mid rfl 28 (.tmp 9) (.tmp 43) rfl W9.heap.size 0 ca.toArray rfl rfl (by exact hA.out.there' hV1'.out rfl) (by exact hA.out.size) (by exact hA.out.one) ?_; generalize hWa : World.setCells _ _ _ _ = Wa
               have hWa2 : Holds Wa (W9.heap.size + 1) 28 z32.toList := by rw [← hWa]; exact hV2'.out.fars _ _ _ (by omega)
               have hWa1 := hA.out.set (w := W9) hV1'.out rfl hWa hVb'.out (Nat.le_refl _)
               have hWa1' := hid hWa1
               have hWa2' := hid hWa2
               clear hWa hWa1 hWa2)
            | ((with_reducible refine at_slot none ?_); refine wpList_store_mid rfl 28 (.tmp 10) (.tmp 45) rfl (W9.heap.size + 1) 0 cb.toArray rfl rfl (by exact hBh.out.there' hWa2'.out rfl) (by exact hBh.out.size) (by exact hBh.out.one) ?_; generalize hWb : World.setCells _ _ _ _ = Wb
               have hWb1 : Holds Wb W9.heap.size 28 ca := by rw [← hWb]; exact hWa1'.out.1.fars _ _ _ (by omega)
               have hWb2 := hBh.out.set (w := W9) hWa2'.out rfl hWb hWa1'.out.2 (by omega)
               have hWb1' := hid hWb1
               have hWb2' := hid hWb2
               clear hWb hWb1 hWb2)
            | fail)
          have hB10 := hid (hB9.out.trans (hWb2'.out.2.mono hB9.out.size))
          have hv10 := hid (below_up hWb2'.out.2 hv9.out)
          have h1d := hid hWb1'.out.drew
          have h2d := hid hWb2'.out.1.drew
          have hBd2 := hid hB10.out.drew
          have hvd := hid hv10.out.drew
          have hu := Try.underlying28
          have hia : (Try.prog.info? 28).map (·.size) = some ca.length := hA.out.size'
          have hib : (Try.prog.info? 28).map (·.size) = some cb.length := hBh.out.size'
          refine wp_region_held_drew (S := fun W => Holds W W9.heap.size 28 ca ∧ Holds W (W9.heap.size + 1) 28 cb) (by kernel_rfl) (by exact ⟨h1d.out, h2d.out⟩) (fun hHeld => ?_)
          refine wpAnyH_take (i := 0) (v := .slice A7 (k + m) c7) rfl (by kernel_rfl) (by kernel_rfl) (by kernel_rfl) (fun _ _ _ h => h) (yieldsIf_move _ rfl rfl rfl) hHeld ?_
          simp only [List.getElem_toArray, List.getElem_cons_succ, List.getElem_cons_zero, Act.put, List.setIfInBounds_toArray, List.set_cons_zero, List.set_cons_succ]
          refine wpAnyH_take (i := 2) (v := .agg ca.toArray) rfl (by kernel_rfl) (by kernel_rfl) (by kernel_rfl) (fun _ _ _ h => h) (yieldsIf_load_mid (by kernel_rfl) _ _ rfl _ _ rfl _ _ (fun W h => h_all h.1) hu rfl hia) hHeld ?_
          simp only [List.getElem_toArray, List.getElem_cons_succ, List.getElem_cons_zero, Act.put, List.setIfInBounds_toArray, List.set_cons_zero, List.set_cons_succ]
          refine wpAnyH_take (i := 5) (v := .agg cb.toArray) rfl (by kernel_rfl) (by kernel_rfl) (by kernel_rfl) (fun _ _ _ h => h) (yieldsIf_load_mid (by kernel_rfl) _ _ rfl _ _ rfl _ _ (fun W h => h_all h.2) hu rfl hib) hHeld ?_
          simp only [List.getElem_toArray, List.getElem_cons_succ, List.getElem_cons_zero, Act.put, List.setIfInBounds_toArray, List.set_cons_zero, List.set_cons_succ]
          refine wpAnyH_ready (rs := [1]) (by kernel_rfl) (by simp) (AllReadyH.cons rfl (fun K hK => ?_) AllReadyH.nil)
          have hK' := hid hK
          clear hK
          rw [if_pos (by kernel_rfl)]
          simp only [List.getElem_toArray, List.getElem_cons_succ, List.getElem_cons_zero]
          go_simp
          refine (hrn.out _ hvd.out).mono ?_
          rintro e W11 ⟨rfl, hb11⟩
          have hP11 := hid (h1d.out.below hb11 h1d.out.lt)
          have hQ11 := hid (h2d.out.below hb11 h2d.out.lt)
          have hB11 := hid (hBd2.out.trans (hb11.mono hBd2.out.size))
          clear hb11
          refine hK'.out _ _ (by exact ⟨hP11.out, hQ11.out⟩) (fun hHeld => ?_)
          clear hK' K
          refine wpAnyH_ready (rs := [3]) (by kernel_rfl) (by simp) (AllReadyH.cons rfl (fun K hK => ?_) AllReadyH.nil)
          have hK' := hid hK
          clear hK
          rw [if_pos (by kernel_rfl)]
          simp only [List.getElem_toArray, List.getElem_cons_succ, List.getElem_cons_zero]
          go_simp
          refine (ht1.out _).mono ?_
          rintro e W12 ⟨rfl, hb12⟩
          have hP12 := hid (hP11.out.below hb12 hP11.out.lt)
          have hQ12 := hid (hQ11.out.below hb12 hQ11.out.lt)
          have hB12 := hid (hB11.out.trans (hb12.mono hB11.out.size))
          clear hb12
          refine hK'.out _ _ (by exact ⟨hP12.out, hQ12.out⟩) (fun hHeld => ?_)
          clear hK' K
          refine wpAnyH_take (i := 4) (v := .string (⟨#[1]⟩ ++ ta)) rfl (by kernel_rfl) (by kernel_rfl) (by kernel_rfl) (fun _ _ _ h => h) (.inl ⟨by kernel_rfl, fun w _ => by go_simp⟩) hHeld ?_
          simp only [List.getElem_toArray, List.getElem_cons_succ, List.getElem_cons_zero, Act.put, List.setIfInBounds_toArray, List.set_cons_zero, List.set_cons_succ]
          refine wpAnyH_ready (rs := [6]) (by kernel_rfl) (by simp) (AllReadyH.cons rfl (fun K hK => ?_) AllReadyH.nil)
          have hK' := hid hK
          clear hK
          rw [if_pos (by kernel_rfl)]
          simp only [List.getElem_toArray, List.getElem_cons_succ, List.getElem_cons_zero]
          go_simp
          refine (ht2.out _).mono ?_
          rintro e W13 ⟨rfl, hb13⟩
          have hP13 := hid (hP12.out.below hb13 hP12.out.lt)
          have hQ13 := hid (hQ12.out.below hb13 hQ12.out.lt)
          have hB13 := hid (hB12.out.trans (hb13.mono hB12.out.size))
          clear hb13
          refine hK'.out _ _ (by exact ⟨hP13.out, hQ13.out⟩) (fun hHeld => ?_)
          clear hK' K
          refine wpAnyH_take (i := 7) (v := .string (⟨#[1]⟩ ++ ta ++ tb)) rfl (by kernel_rfl) (by kernel_rfl) (by kernel_rfl) (fun _ _ _ h => h) (.inl ⟨by kernel_rfl, fun w _ => by go_simp⟩) hHeld ?_
          simp only [List.getElem_toArray, List.getElem_cons_succ, List.getElem_cons_zero, Act.put, List.setIfInBounds_toArray, List.set_cons_zero, List.set_cons_succ]
          refine wpAnyH_ready (rs := [8]) (by kernel_rfl) (by simp) (AllReadyH.cons rfl (fun K hK => ?_) AllReadyH.nil)
          have hK' := hid hK
          clear hK
          rw [if_pos (by kernel_rfl)]
          simp only [List.getElem_toArray, List.getElem_cons_succ, List.getElem_cons_zero]
          go_simp
          rw [hnt'.out]
          refine (hsh.out _).mono ?_
          rintro e W14 ⟨rfl, hb14⟩
          have hP14 := hid (hP13.out.below hb14 hP13.out.lt)
          have hQ14 := hid (hQ13.out.below hb14 hQ13.out.lt)
          have hB14 := hid (hB13.out.trans (hb14.mono hB13.out.size))
          clear hb14
          refine hK'.out _ _ (by exact ⟨hP14.out, hQ14.out⟩) (fun hHeld => ?_)
          clear hK' K
          refine wpAnyH_take (i := 9) (v := .bool true) rfl (by kernel_rfl) (by kernel_rfl) (by kernel_rfl) (fun _ _ _ h => h) (yieldsIf_eql hC.out (by kernel_rfl) _ _ _ rfl rfl rfl) hHeld ?_
          simp only [List.getElem_toArray, List.getElem_cons_succ, List.getElem_cons_zero, Act.put, List.setIfInBounds_toArray, List.set_cons_zero, List.set_cons_succ]
          refine wpAnyH_take (i := 10) (v := .bool true) rfl (by kernel_rfl) (by kernel_rfl) (by kernel_rfl) (fun _ _ _ h => h) (yieldsIf_assign _ rfl rfl rfl) hHeld ?_
          simp only [List.getElem_toArray, List.getElem_cons_succ, List.getElem_cons_zero, Act.put, List.setIfInBounds_toArray, List.set_cons_zero, List.set_cons_succ]
          refine wpAnyH_done (by kernel_rfl) ?_ _
          go_wp2_with fail
          go_ret
          exact ⟨rfl, hB14.out⟩

end Go.Proofs.Ytenfhmpjhbpkpaa
