/- Layer 10, the reference's side: paths, proofs of beginnings.
   Layer 10, the reference's side: paths, proofs of beginnings.
   Layer 10, the reference's side: climbs.
   Layer 10, the reference's side: rises. -/
import Derived.Test.YtenfhmpjhbpkpaaPfA
import Derived.Test.YtenfhmpjhbpkpaaHashs
namespace Go.Proofs.Ytenfhmpjhbpkpaa
open Go.RowKit
open Go.Lib (strCells strCells_length strCells_oneCell)
attribute [local irreducible] Sha.compress Sha.blocks Sha.sha Sha.pad

theorem row_base {w : World} {B B' n size : Nat} {e : TypeId} {v : Value} {xs : List Value} (h : w.ownsRow B e size v n xs) (hB : B' ≤ B) : w.ownsRow B' e size v n xs := by
  obtain ⟨h1, h2⟩ := h
  refine ⟨h1, ?_⟩
  rcases h2 with h2 | ⟨g, cap, cur, he, hg, h3⟩
  · exact .inl h2
  · exact .inr ⟨g, cap, cur, he, Nat.le_trans hB hg, h3⟩

set_option maxRecDepth 100000 in
set_option maxHeartbeats 4000000 in
theorem rPath_any : ∀ (n i : Nat) (A : Option Addr) (c : Nat) (xs : List ByteArray) (B : Nat) (w : World), Texts w B A n xs → B ≤ w.heap.size → n ≤ c → i < n → n ≤ 1000 → (∀ s ∈ xs, s.size ≤ 140737488351232) →
    Calls Try.prog 51 #[.int .i64 (i : Int), .slice A n c] w fun e w' => ∃ A' c', e = .returned (.slice A' (Mth.pathOf rootH i xs).length c') ∧ w'.ownsRow w.heap.size 28 32 (.slice A' (Mth.pathOf rootH i xs).length c') (Mth.pathOf rootH i xs).length (hashCells (Mth.pathOf rootH i xs)) ∧ (Mth.pathOf rootH i xs).length ≤ n ∧ Below w.heap.size w w' := by
  intro n
  induction n using Nat.strongRecOn with
  | ind n ih =>
  intro i A c xs B w hX hBw hnc hi hn hs
  have hlen := hX.len
  by_cases h1 : n = 1
  · subst h1
    have hp := Mth.pathOf_one rootH i xs (by omega)
    rw [hp]
    have hp' := hid hp
    clear hp ih
    go_enter Try.func51, Try.ntmps51
    go_wp2_with fail
    go_ret
    exact ⟨none, 0, rfl, World.ownsRow_nil _ _ _ _, Nat.zero_le _, Below.refl _ _⟩
  · obtain ⟨p, rfl⟩ : ∃ p, A = some p := by
      obtain ⟨p, e, -⟩ := hX.get (show 0 < n by omega)
      exact ⟨p, e⟩
    obtain ⟨k1, k2, -, -⟩ := Mth.cut_spec n (by omega)
    have htwo := Mth.pathOf_two rootH i xs (by omega)
    rw [hlen] at htwo
    obtain ⟨k, hk⟩ : ∃ k, Mth.cut n = k := ⟨_, rfl⟩
    have hcut := hid (fun W => rCut_any n (by omega) (by omega) W)
    rw [hk] at k1 k2 htwo hcut
    obtain ⟨i0, hi0, hz0, hz1, hz2⟩ := info_parts Try.infoHashD
    have hXa := hid (fun W (h : Below w.heap.size w W) => (hX.below (h.mono hBw)).take (k := k) (by omega))
    have hXb := hid (fun W (h : Below w.heap.size w W) => (hX.below (h.mono hBw)).drop (k := k) (by omega))
    have hsa := hid (fun s (hm : s ∈ xs.take k) => hs s (List.mem_of_mem_take hm))
    have hsb := hid (fun s (hm : s ∈ xs.drop k) => hs s (List.mem_of_mem_drop hm))
    have hkn : (k : Int) ≤ (c : Int) := by omega
    have hkn2 : (k : Int) ≤ (n : Int) := by omega
    have hnc2 : (n : Int) ≤ (c : Int) := by omega
    have hk0 : (0 : Int) ≤ (k : Int) := by omega
    have hto : (k : Int).toNat = k := by omega
    have hn1 : ¬ (n : Int) = 1 := by omega
    have hck : ¬ c = k := by omega
    by_cases hik : i < k
    · have hiki : (i : Int) < (k : Int) := by omega
      rw [if_pos hik] at htwo
      have hrec := hid (fun W (h : Below w.heap.size w W) => ih k k2 i (some p) c (xs.take k) B W (hXa.out W h) (Nat.le_trans hBw h.size) (by omega) hik (by omega) hsa.out)
      have hro := hid (fun W (h : Below w.heap.size w W) => rRoot_any (n - k) (some (p.add k)) (c - k) (xs.drop k) B W (hXb.out W h) (Nat.le_trans hBw h.size) (by omega) (by omega) hsb.out)
      have hC := hid (hash_root (xs.drop k))
      unfold hv at hro
      obtain ⟨P4, hP4⟩ : ∃ P, Mth.pathOf rootH i (xs.take k) = P := ⟨_, rfl⟩
      obtain ⟨R4, hR4⟩ : ∃ R, rootH (xs.drop k) = R := ⟨_, rfl⟩
      obtain ⟨cs, hcs⟩ : ∃ cs, byteCells R4 = cs := ⟨_, rfl⟩
      rw [hP4] at hrec htwo
      rw [hR4] at hro htwo hC
      rw [hcs] at hro hC
      have hone := hid (show ∀ u ∈ cs, u.oneCell' = true from fun u hu => byteCells_one R4 u (by rw [hcs]; exact hu))
      have hfin := hid htwo
      have hcs' := hid hcs
      clear hcs htwo hP4 hR4 hXa hXb hsa hsb hX hs ih hk
      go_enter Try.func51, Try.ntmps51
      go_wp2_with fail
      refine (hcut.out _).mono ?_
      rintro e W2 ⟨rfl, hb2⟩
      have hB2 := hid (below_up hb2 (Below.refl _ _))
      clear hb2
      go_wp2_with fail
      refine wp_region_held_drew (S := fun _ => True) (by kernel_rfl) (by exact True.intro) (fun hHeld => ?_)
      refine wpAnyH_take (i := 0) (v := .int .i64 (i : Int)) rfl (by kernel_rfl) (by kernel_rfl) (by kernel_rfl) (fun _ _ _ h => h) (yieldsIf_move _ rfl rfl rfl) hHeld ?_
      simp only [ly1, ly2, ly3, Act.put, ly5, ly6, ly7]
      refine wpAnyH_take (i := 1) (v := .slice (some p) n c) rfl (by kernel_rfl) (by kernel_rfl) (by kernel_rfl) (fun _ _ _ h => h) (yieldsIf_move _ rfl rfl rfl) hHeld ?_
      simp only [ly1, ly2, ly3, Act.put, ly5, ly6, ly7]
      refine wpAnyH_take (i := 2) (v := .int .i64 (k : Int)) rfl (by kernel_rfl) (by kernel_rfl) (by kernel_rfl) (fun _ _ _ h => h) (yieldsIf_move _ rfl rfl rfl) hHeld ?_
      simp only [ly1, ly2, ly3, Act.put, ly5, ly6, ly7]
      refine wpAnyH_take (i := 3) (v := .slice (some p) k c) rfl (by kernel_rfl) (by kernel_rfl) (by kernel_rfl) (fun _ _ _ h => h) (.inl ⟨by kernel_rfl, fun w _ => by go_simp⟩) hHeld ?_
      simp only [ly1, ly2, ly3, Act.put, ly5, ly6, ly7]
      refine wpAnyH_take (i := 5) (v := .slice (some p) n c) rfl (by kernel_rfl) (by kernel_rfl) (by kernel_rfl) (fun _ _ _ h => h) (yieldsIf_move _ rfl rfl rfl) hHeld ?_
      simp only [ly1, ly2, ly3, Act.put, ly5, ly6, ly7]
      refine wpAnyH_take (i := 6) (v := .int .i64 (k : Int)) rfl (by kernel_rfl) (by kernel_rfl) (by kernel_rfl) (fun _ _ _ h => h) (yieldsIf_move _ rfl rfl rfl) hHeld ?_
      simp only [ly1, ly2, ly3, Act.put, ly5, ly6, ly7]
      refine wpAnyH_take (i := 7) (v := .slice (some (p.add k)) (n - k) (c - k)) rfl (by kernel_rfl) (by kernel_rfl) (by kernel_rfl) (fun _ _ _ h => h) (.inl ⟨by kernel_rfl, fun w _ => by go_simp⟩) hHeld ?_
      simp only [ly1, ly2, ly3, Act.put, ly5, ly6, ly7]
      refine wpAnyH_ready (rs := [4]) (by kernel_rfl) (by simp) (AllReadyH.cons rfl (fun K hK => ?_) AllReadyH.nil)
      have hK' := hid hK
      clear hK
      rw [if_pos (by kernel_rfl)]
      simp only [ly1, ly2, ly3]
      go_simp
      refine (hrec.out _ hB2.out.drew).mono ?_
      rintro e W4 ⟨A4, c4, rfl, hrow4, hml4, hb4⟩
      generalize hm4 : P4.length = m4 at *
      have hm4' := hid hm4
      clear hm4
      have hB4 := hid (below_up hb4 hB2.out.drew)
      have hrow4' := hid (row_base hrow4 (show w.heap.size ≤ _ from hB2.out.drew.size))
      clear hb4 hrow4
      refine hK'.out _ _ (by exact True.intro) (fun hHeld => ?_)
      clear hK' K
      refine wpAnyH_ready (rs := [8]) (by kernel_rfl) (by simp) (AllReadyH.cons rfl (fun K hK => ?_) AllReadyH.nil)
      have hK' := hid hK
      clear hK
      rw [if_pos (by kernel_rfl)]
      simp only [ly1, ly2, ly3]
      go_simp
      refine (hro.out _ hB4.out).mono ?_
      rintro e W5 ⟨rfl, hb5⟩
      have hB5 := hid (below_up hb5 hB4.out)
      have hrow5 := hid (row_below hrow4'.out hb5)
      clear hb5
      refine hK'.out _ _ (by exact True.intro) (fun hHeld => ?_)
      clear hK' K
      refine wpAnyH_ready (rs := [9]) (by kernel_rfl) (by simp) (AllReadyH.cons rfl (fun K hK => ?_) AllReadyH.nil)
      have hK' := hid hK
      clear hK
      rw [if_pos (by kernel_rfl)]
      simp only [ly1, ly2, ly3]
      refine wp_buildSlice_one 41 28 (.tmp 23) rfl i0 _ Try.underlying41 hi0 hz0 cs.toArray rfl (by rw [hz1, List.size_toArray, hC.out.len]) (by rw [List.size_toArray, hC.out.len]; decide) (by rw [List.size_toArray, hC.out.len]; decide) ?_
      have hN6 := hid (At.of_holds (sz := 32) (n := 1) (Holds.new W5 28 cs.toArray) hC.out.len (show W5.heap.size < W5.heap.size + 1 from Nat.lt_succ_self _))
      have hrow6 := hid (hrow5.out.alloc (.cells cs.toArray 28))
      have hB6 := hid (hB5.out.alloc hB5.out.size (.cells cs.toArray 28))
      have hw6 := hid hB6.out.size
      refine hK'.out _ _ (by exact True.intro) (fun hHeld => ?_)
      clear hK' K
      refine wpAnyH_ready (rs := [10]) (by kernel_rfl) (by simp) (AllReadyH.cons rfl (fun K hK => ?_) AllReadyH.nil)
      have hK' := hid hK
      clear hK
      rw [if_pos (by kernel_rfl)]
      simp only [ly1, ly2, ly3]
      refine wp_appends (.tmp 19) (.tmp 24) 41 28 rfl w.heap.size i0 _ 32 32 Try.underlying41 hi0 hz0 hz1 hz2 (by decide) (by decide) A4 m4 c4 (hashCells P4) (W5.heap.size + 1) (some ⟨W5.heap.size, 0, none⟩) 1 1 cs rfl rfl (fun h => by cases h) (by exact hone.out) (by omega) (by omega) (by exact hrow6.out) (by exact hN6.out) (by exact hw6.out) ?_
      intro A7 c7 W7 hrow7 hb7 hg7
      have hB7 := hid (hB6.out.trans hb7)
      have hrow7' := hid hrow7
      clear hrow7 hb7 hg7
      refine hK'.out _ _ (by exact True.intro) (fun hHeld => ?_)
      clear hK' K
      refine wpAnyH_take (i := 11) (v := .slice A7 (m4 + 1) c7) rfl (by kernel_rfl) (by kernel_rfl) (by kernel_rfl) (fun _ _ _ h => h) (yieldsIf_assign _ rfl rfl rfl) hHeld ?_
      simp only [ly1, ly2, ly3, Act.put, ly5, ly6, ly7]
      refine wpAnyH_done (by kernel_rfl) ?_ _
      go_wp2_with fail
      go_ret
      exact ⟨A7, c7, by rw [hfin.out, List.length_append, List.length_singleton, hm4'.out]; rfl, by rw [hfin.out, List.length_append, List.length_singleton, hm4'.out, hashCells_append, hashCells_one, hcs'.out]; exact hrow7'.out, by rw [hfin.out, List.length_append, List.length_singleton, hm4'.out]; omega, hB7.out⟩
    · have hiki : ¬ (i : Int) < (k : Int) := by omega
      have hsub := IntWalk.i64_in ((i : Int) - (k : Int)) (by omega)
      have es : ((i - k : Nat) : Int) = (i : Int) - (k : Int) := by omega
      rw [if_neg hik] at htwo
      have hrec := hid (fun W (h : Below w.heap.size w W) => ih (n - k) (by omega) (i - k) (some (p.add k)) (c - k) (xs.drop k) B W (hXb.out W h) (Nat.le_trans hBw h.size) (by omega) (by omega) (by omega) hsb.out)
      rw [es] at hrec
      have hro := hid (fun W (h : Below w.heap.size w W) => rRoot_any k (some p) c (xs.take k) B W (hXa.out W h) (Nat.le_trans hBw h.size) (by omega) (by omega) hsa.out)
      have hC := hid (hash_root (xs.take k))
      clear es
      unfold hv at hro
      obtain ⟨P4, hP4⟩ : ∃ P, Mth.pathOf rootH (i - k) (xs.drop k) = P := ⟨_, rfl⟩
      obtain ⟨R4, hR4⟩ : ∃ R, rootH (xs.take k) = R := ⟨_, rfl⟩
      obtain ⟨cs, hcs⟩ : ∃ cs, byteCells R4 = cs := ⟨_, rfl⟩
      rw [hP4] at hrec htwo
      rw [hR4] at hro htwo hC
      rw [hcs] at hro hC
      have hone := hid (show ∀ u ∈ cs, u.oneCell' = true from fun u hu => byteCells_one R4 u (by rw [hcs]; exact hu))
      have hfin := hid htwo
      have hcs' := hid hcs
      clear hcs htwo hP4 hR4 hXa hXb hsa hsb hX hs ih hk
      go_enter Try.func51, Try.ntmps51
      go_wp2_with fail
      refine (hcut.out _).mono ?_
      rintro e W2 ⟨rfl, hb2⟩
      have hB2 := hid (below_up hb2 (Below.refl _ _))
      clear hb2
      go_wp2_with fail
      refine wp_region_held_drew (S := fun _ => True) (by kernel_rfl) (by exact True.intro) (fun hHeld => ?_)
      refine wpAnyH_take (i := 0) (v := .int .i64 (i : Int)) rfl (by kernel_rfl) (by kernel_rfl) (by kernel_rfl) (fun _ _ _ h => h) (yieldsIf_move _ rfl rfl rfl) hHeld ?_
      simp only [ly1, ly2, ly3, Act.put, ly5, ly6, ly7]
      refine wpAnyH_take (i := 1) (v := .int .i64 (k : Int)) rfl (by kernel_rfl) (by kernel_rfl) (by kernel_rfl) (fun _ _ _ h => h) (yieldsIf_move _ rfl rfl rfl) hHeld ?_
      simp only [ly1, ly2, ly3, Act.put, ly5, ly6, ly7]
      refine wpAnyH_take (i := 2) (v := .int .i64 ((i : Int) - (k : Int))) rfl (by kernel_rfl) (by kernel_rfl) (by kernel_rfl) (fun _ _ _ h => h) (.inl ⟨by kernel_rfl, fun w _ => by go_simp⟩) hHeld ?_
      simp only [ly1, ly2, ly3, Act.put, ly5, ly6, ly7]
      refine wpAnyH_take (i := 3) (v := .slice (some p) n c) rfl (by kernel_rfl) (by kernel_rfl) (by kernel_rfl) (fun _ _ _ h => h) (yieldsIf_move _ rfl rfl rfl) hHeld ?_
      simp only [ly1, ly2, ly3, Act.put, ly5, ly6, ly7]
      refine wpAnyH_take (i := 4) (v := .int .i64 (k : Int)) rfl (by kernel_rfl) (by kernel_rfl) (by kernel_rfl) (fun _ _ _ h => h) (yieldsIf_move _ rfl rfl rfl) hHeld ?_
      simp only [ly1, ly2, ly3, Act.put, ly5, ly6, ly7]
      refine wpAnyH_take (i := 5) (v := .slice (some (p.add k)) (n - k) (c - k)) rfl (by kernel_rfl) (by kernel_rfl) (by kernel_rfl) (fun _ _ _ h => h) (.inl ⟨by kernel_rfl, fun w _ => by go_simp⟩) hHeld ?_
      simp only [ly1, ly2, ly3, Act.put, ly5, ly6, ly7]
      refine wpAnyH_take (i := 7) (v := .slice (some p) n c) rfl (by kernel_rfl) (by kernel_rfl) (by kernel_rfl) (fun _ _ _ h => h) (yieldsIf_move _ rfl rfl rfl) hHeld ?_
      simp only [ly1, ly2, ly3, Act.put, ly5, ly6, ly7]
      refine wpAnyH_take (i := 8) (v := .int .i64 (k : Int)) rfl (by kernel_rfl) (by kernel_rfl) (by kernel_rfl) (fun _ _ _ h => h) (yieldsIf_move _ rfl rfl rfl) hHeld ?_
      simp only [ly1, ly2, ly3, Act.put, ly5, ly6, ly7]
      refine wpAnyH_take (i := 9) (v := .slice (some p) k c) rfl (by kernel_rfl) (by kernel_rfl) (by kernel_rfl) (fun _ _ _ h => h) (.inl ⟨by kernel_rfl, fun w _ => by go_simp⟩) hHeld ?_
      simp only [ly1, ly2, ly3, Act.put, ly5, ly6, ly7]
      refine wpAnyH_ready (rs := [6]) (by kernel_rfl) (by simp) (AllReadyH.cons rfl (fun K hK => ?_) AllReadyH.nil)
      have hK' := hid hK
      clear hK
      rw [if_pos (by kernel_rfl)]
      simp only [ly1, ly2, ly3]
      go_simp
      refine (hrec.out _ hB2.out.drew).mono ?_
      rintro e W4 ⟨A4, c4, rfl, hrow4, hml4, hb4⟩
      generalize hm4 : P4.length = m4 at *
      have hm4' := hid hm4
      clear hm4
      have hB4 := hid (below_up hb4 hB2.out.drew)
      have hrow4' := hid (row_base hrow4 (show w.heap.size ≤ _ from hB2.out.drew.size))
      clear hb4 hrow4
      refine hK'.out _ _ (by exact True.intro) (fun hHeld => ?_)
      clear hK' K
      refine wpAnyH_ready (rs := [10]) (by kernel_rfl) (by simp) (AllReadyH.cons rfl (fun K hK => ?_) AllReadyH.nil)
      have hK' := hid hK
      clear hK
      rw [if_pos (by kernel_rfl)]
      simp only [ly1, ly2, ly3]
      go_simp
      refine (hro.out _ hB4.out).mono ?_
      rintro e W5 ⟨rfl, hb5⟩
      have hB5 := hid (below_up hb5 hB4.out)
      have hrow5 := hid (row_below hrow4'.out hb5)
      clear hb5
      refine hK'.out _ _ (by exact True.intro) (fun hHeld => ?_)
      clear hK' K
      refine wpAnyH_ready (rs := [11]) (by kernel_rfl) (by simp) (AllReadyH.cons rfl (fun K hK => ?_) AllReadyH.nil)
      have hK' := hid hK
      clear hK
      rw [if_pos (by kernel_rfl)]
      simp only [ly1, ly2, ly3]
      refine wp_buildSlice_one 41 28 (.tmp 36) rfl i0 _ Try.underlying41 hi0 hz0 cs.toArray rfl (by rw [hz1, List.size_toArray, hC.out.len]) (by rw [List.size_toArray, hC.out.len]; decide) (by rw [List.size_toArray, hC.out.len]; decide) ?_
      have hN6 := hid (At.of_holds (sz := 32) (n := 1) (Holds.new W5 28 cs.toArray) hC.out.len (show W5.heap.size < W5.heap.size + 1 from Nat.lt_succ_self _))
      have hrow6 := hid (hrow5.out.alloc (.cells cs.toArray 28))
      have hB6 := hid (hB5.out.alloc hB5.out.size (.cells cs.toArray 28))
      have hw6 := hid hB6.out.size
      refine hK'.out _ _ (by exact True.intro) (fun hHeld => ?_)
      clear hK' K
      refine wpAnyH_ready (rs := [12]) (by kernel_rfl) (by simp) (AllReadyH.cons rfl (fun K hK => ?_) AllReadyH.nil)
      have hK' := hid hK
      clear hK
      rw [if_pos (by kernel_rfl)]
      simp only [ly1, ly2, ly3]
      refine wp_appends (.tmp 32) (.tmp 37) 41 28 rfl w.heap.size i0 _ 32 32 Try.underlying41 hi0 hz0 hz1 hz2 (by decide) (by decide) A4 m4 c4 (hashCells P4) (W5.heap.size + 1) (some ⟨W5.heap.size, 0, none⟩) 1 1 cs rfl rfl (fun h => by cases h) (by exact hone.out) (by omega) (by omega) (by exact hrow6.out) (by exact hN6.out) (by exact hw6.out) ?_
      intro A7 c7 W7 hrow7 hb7 hg7
      have hB7 := hid (hB6.out.trans hb7)
      have hrow7' := hid hrow7
      clear hrow7 hb7 hg7
      refine hK'.out _ _ (by exact True.intro) (fun hHeld => ?_)
      clear hK' K
      refine wpAnyH_take (i := 13) (v := .slice A7 (m4 + 1) c7) rfl (by kernel_rfl) (by kernel_rfl) (by kernel_rfl) (fun _ _ _ h => h) (yieldsIf_assign _ rfl rfl rfl) hHeld ?_
      simp only [ly1, ly2, ly3, Act.put, ly5, ly6, ly7]
      refine wpAnyH_done (by kernel_rfl) ?_ _
      go_wp2_with fail
      go_ret
      exact ⟨A7, c7, by rw [hfin.out, List.length_append, List.length_singleton, hm4'.out]; rfl, by rw [hfin.out, List.length_append, List.length_singleton, hm4'.out, hashCells_append, hashCells_one, hcs'.out]; exact hrow7'.out, by rw [hfin.out, List.length_append, List.length_singleton, hm4'.out]; omega, hB7.out⟩

end Go.Proofs.Ytenfhmpjhbpkpaa
namespace Go.Proofs.Ytenfhmpjhbpkpaa
open Go.RowKit
open Go.Lib (strCells strCells_length strCells_oneCell)
attribute [local irreducible] Sha.compress Sha.blocks Sha.sha Sha.pad

set_option maxRecDepth 100000 in
set_option maxHeartbeats 4000000 in
theorem rSub_any : ∀ (n m : Nat) (A : Option Addr) (c : Nat) (xs : List ByteArray) (w0 : Bool) (B : Nat) (w : World), Texts w B A n xs → B ≤ w.heap.size → n ≤ c → 1 ≤ m → m ≤ n → n ≤ 1000 → (∀ s ∈ xs, s.size ≤ 140737488351232) →
    Calls Try.prog 56 #[.int .i64 (m : Int), .slice A n c, .bool w0] w fun e w' => ∃ A' c', e = .returned (.slice A' (Mth.subOf rootH m xs w0).length c') ∧ w'.ownsRow w.heap.size 28 32 (.slice A' (Mth.subOf rootH m xs w0).length c') (Mth.subOf rootH m xs w0).length (hashCells (Mth.subOf rootH m xs w0)) ∧ (Mth.subOf rootH m xs w0).length ≤ n ∧ Below w.heap.size w w' := by
  intro n
  induction n using Nat.strongRecOn with
  | ind n ih =>
  intro m A c xs w0 B w hX hBw hnc hm1 hmn hn hs
  have hlen := hX.len
  obtain ⟨i0, hi0, hz0, hz1, hz2⟩ := info_parts Try.infoHashD
  by_cases h1 : m = n
  · subst h1
    have hp := Mth.subOf_all rootH xs w0
    rw [hlen] at hp
    rw [hp]
    clear hp ih
    cases w0
    · have hro := hid (fun W (h : Below w.heap.size w W) => rRoot_any m A c xs B W (hX.below (h.mono hBw)) (Nat.le_trans hBw h.size) hnc (by omega) hs)
      have hC := hid (hash_root xs)
      unfold hv at hro
      have hcells : hashCells [rootH xs] = byteCells (rootH xs) := hashCells_one _
      have e0 : (if (false : Bool) = true then ([] : List (List UInt8)) else [rootH xs]) = [rootH xs] := rfl
      rw [e0, hcells]
      generalize byteCells (rootH xs) = cs at *
      clear e0 hcells hX hs
      go_enter Try.func56, Try.ntmps56
      go_wp2_with fail
      refine (hro.out _ (Below.refl _ _)).mono ?_
      rintro e W2 ⟨rfl, hb2⟩
      have hb2' := hid hb2
      clear hb2
      rename_i hK1
      refine hK1 _ _ ?_
      clear hK1
      refine wpList_buildSlice_one rfl 41 28 (.tmp 14) rfl i0 _ Try.underlying41 hi0 hz0 cs.toArray rfl (by rw [hz1, List.size_toArray, hC.out.len]) (by rw [List.size_toArray, hC.out.len]; decide) (by rw [List.size_toArray, hC.out.len]; decide) ?_
      have hrw := hid (show (W2.alloc (.cells cs.toArray 28)).ownsRow w.heap.size 28 32 (.slice (some ⟨W2.heap.size, 0, none⟩) 1 1) 1 cs from ⟨hC.out.len, .inr ⟨W2.heap.size, 1, cs.toArray, rfl, hb2'.out.size, Holds.new W2 _ _, Nat.le_refl _, by unfold maxLen; decide, by rw [List.size_toArray, hC.out.len], List.take_of_length_le (by rw [hC.out.len]; decide)⟩⟩)
      have hB3 := hid (hb2'.out.alloc hb2'.out.size (.cells cs.toArray 28))
      generalize hW3 : W2.alloc (.cells cs.toArray 28) = W3 at *
      go_wp2_with fail
      go_ret
      exact ⟨_, _, rfl, hrw.out, hm1, hB3.out⟩
    · have e0 : (if (true : Bool) = true then ([] : List (List UInt8)) else [rootH xs]) = [] := rfl
      rw [e0]
      go_enter Try.func56, Try.ntmps56
      go_wp2_with fail
      go_ret
      exact ⟨none, 0, rfl, World.ownsRow_nil _ _ _ _, Below.refl _ _⟩
  · obtain ⟨p, rfl⟩ : ∃ p, A = some p := by
      obtain ⟨p, e, -⟩ := hX.get (show 0 < n by omega)
      exact ⟨p, e⟩
    obtain ⟨k1, k2, -, -⟩ := Mth.cut_spec n (by omega)
    have htwo := Mth.subOf_two rootH m xs w0 hm1 (by omega)
    rw [hlen] at htwo
    obtain ⟨k, hk⟩ : ∃ k, Mth.cut n = k := ⟨_, rfl⟩
    have hcut := hid (fun W => rCut_any n (by omega) (by omega) W)
    rw [hk] at k1 k2 htwo hcut
    have hXa := hid (fun W (h : Below w.heap.size w W) => (hX.below (h.mono hBw)).take (k := k) (by omega))
    have hXb := hid (fun W (h : Below w.heap.size w W) => (hX.below (h.mono hBw)).drop (k := k) (by omega))
    have hsa := hid (fun s (hm : s ∈ xs.take k) => hs s (List.mem_of_mem_take hm))
    have hsb := hid (fun s (hm : s ∈ xs.drop k) => hs s (List.mem_of_mem_drop hm))
    have hkn : (k : Int) ≤ (c : Int) := by omega
    have hkn2 : (k : Int) ≤ (n : Int) := by omega
    have hnc2 : (n : Int) ≤ (c : Int) := by omega
    have hk0 : (0 : Int) ≤ (k : Int) := by omega
    have hto : (k : Int).toNat = k := by omega
    have hn1 : ¬ (m : Int) = (n : Int) := by omega
    have hck : ¬ c = k := by omega
    by_cases hik : m ≤ k
    · have hiki : (m : Int) ≤ (k : Int) := by omega
      rw [if_pos hik] at htwo
      have hrec := hid (fun W (h : Below w.heap.size w W) => ih k k2 m (some p) c (xs.take k) w0 B W (hXa.out W h) (Nat.le_trans hBw h.size) (by omega) hm1 hik (by omega) hsa.out)
      have hro := hid (fun W (h : Below w.heap.size w W) => rRoot_any (n - k) (some (p.add k)) (c - k) (xs.drop k) B W (hXb.out W h) (Nat.le_trans hBw h.size) (by omega) (by omega) hsb.out)
      have hC := hid (hash_root (xs.drop k))
      unfold hv at hro
      obtain ⟨P4, hP4⟩ : ∃ P, Mth.subOf rootH m (xs.take k) w0 = P := ⟨_, rfl⟩
      obtain ⟨R4, hR4⟩ : ∃ R, rootH (xs.drop k) = R := ⟨_, rfl⟩
      obtain ⟨cs, hcs⟩ : ∃ cs, byteCells R4 = cs := ⟨_, rfl⟩
      rw [hP4] at hrec htwo
      rw [hR4] at hro htwo hC
      rw [hcs] at hro hC
      have hone := hid (show ∀ u ∈ cs, u.oneCell' = true from fun u hu => byteCells_one R4 u (by rw [hcs]; exact hu))
      have hfin := hid htwo
      have hcs' := hid hcs
      clear hcs htwo hP4 hR4 hXa hXb hsa hsb hX hs ih hk
      go_enter Try.func56, Try.ntmps56
      go_wp2_with fail
      refine (hcut.out _).mono ?_
      rintro e W2 ⟨rfl, hb2⟩
      have hB2 := hid (below_up hb2 (Below.refl _ _))
      clear hb2
      go_wp2_with fail
      refine wp_region_held_drew (S := fun _ => True) (by kernel_rfl) (by exact True.intro) (fun hHeld => ?_)
      refine wpAnyH_take (i := 0) (v := .int .i64 (m : Int)) rfl (by kernel_rfl) (by kernel_rfl) (by kernel_rfl) (fun _ _ _ h => h) (yieldsIf_move _ rfl rfl rfl) hHeld ?_
      simp only [ly1, ly2, ly3, Act.put, ly5, ly6, ly7]
      refine wpAnyH_take (i := 1) (v := .slice (some p) n c) rfl (by kernel_rfl) (by kernel_rfl) (by kernel_rfl) (fun _ _ _ h => h) (yieldsIf_move _ rfl rfl rfl) hHeld ?_
      simp only [ly1, ly2, ly3, Act.put, ly5, ly6, ly7]
      refine wpAnyH_take (i := 2) (v := .int .i64 (k : Int)) rfl (by kernel_rfl) (by kernel_rfl) (by kernel_rfl) (fun _ _ _ h => h) (yieldsIf_move _ rfl rfl rfl) hHeld ?_
      simp only [ly1, ly2, ly3, Act.put, ly5, ly6, ly7]
      refine wpAnyH_take (i := 3) (v := .slice (some p) k c) rfl (by kernel_rfl) (by kernel_rfl) (by kernel_rfl) (fun _ _ _ h => h) (.inl ⟨by kernel_rfl, fun w _ => by go_simp⟩) hHeld ?_
      simp only [ly1, ly2, ly3, Act.put, ly5, ly6, ly7]
      refine wpAnyH_take (i := 4) (v := .bool w0) rfl (by kernel_rfl) (by kernel_rfl) (by kernel_rfl) (fun _ _ _ h => h) (yieldsIf_move _ rfl rfl rfl) hHeld ?_
      simp only [ly1, ly2, ly3, Act.put, ly5, ly6, ly7]
      refine wpAnyH_take (i := 6) (v := .slice (some p) n c) rfl (by kernel_rfl) (by kernel_rfl) (by kernel_rfl) (fun _ _ _ h => h) (yieldsIf_move _ rfl rfl rfl) hHeld ?_
      simp only [ly1, ly2, ly3, Act.put, ly5, ly6, ly7]
      refine wpAnyH_take (i := 7) (v := .int .i64 (k : Int)) rfl (by kernel_rfl) (by kernel_rfl) (by kernel_rfl) (fun _ _ _ h => h) (yieldsIf_move _ rfl rfl rfl) hHeld ?_
      simp only [ly1, ly2, ly3, Act.put, ly5, ly6, ly7]
      refine wpAnyH_take (i := 8) (v := .slice (some (p.add k)) (n - k) (c - k)) rfl (by kernel_rfl) (by kernel_rfl) (by kernel_rfl) (fun _ _ _ h => h) (.inl ⟨by kernel_rfl, fun w _ => by go_simp⟩) hHeld ?_
      simp only [ly1, ly2, ly3, Act.put, ly5, ly6, ly7]
      refine wpAnyH_ready (rs := [5]) (by kernel_rfl) (by simp) (AllReadyH.cons rfl (fun K hK => ?_) AllReadyH.nil)
      have hK' := hid hK
      clear hK
      rw [if_pos (by kernel_rfl)]
      simp only [ly1, ly2, ly3]
      go_simp
      refine (hrec.out _ hB2.out.drew).mono ?_
      rintro e W4 ⟨A4, c4, rfl, hrow4, hml4, hb4⟩
      generalize hm4 : P4.length = m4 at *
      have hm4' := hid hm4
      clear hm4
      have hB4 := hid (below_up hb4 hB2.out.drew)
      have hrow4' := hid (row_base hrow4 (show w.heap.size ≤ _ from hB2.out.drew.size))
      clear hb4 hrow4
      refine hK'.out _ _ (by exact True.intro) (fun hHeld => ?_)
      clear hK' K
      refine wpAnyH_ready (rs := [9]) (by kernel_rfl) (by simp) (AllReadyH.cons rfl (fun K hK => ?_) AllReadyH.nil)
      have hK' := hid hK
      clear hK
      rw [if_pos (by kernel_rfl)]
      simp only [ly1, ly2, ly3]
      go_simp
      refine (hro.out _ hB4.out).mono ?_
      rintro e W5 ⟨rfl, hb5⟩
      have hB5 := hid (below_up hb5 hB4.out)
      have hrow5 := hid (row_below hrow4'.out hb5)
      clear hb5
      refine hK'.out _ _ (by exact True.intro) (fun hHeld => ?_)
      clear hK' K
      refine wpAnyH_ready (rs := [10]) (by kernel_rfl) (by simp) (AllReadyH.cons rfl (fun K hK => ?_) AllReadyH.nil)
      have hK' := hid hK
      clear hK
      rw [if_pos (by kernel_rfl)]
      simp only [ly1, ly2, ly3]
      refine wp_buildSlice_one 41 28 (.tmp 31) rfl i0 _ Try.underlying41 hi0 hz0 cs.toArray rfl (by rw [hz1, List.size_toArray, hC.out.len]) (by rw [List.size_toArray, hC.out.len]; decide) (by rw [List.size_toArray, hC.out.len]; decide) ?_
      have hN6 := hid (At.of_holds (sz := 32) (n := 1) (Holds.new W5 28 cs.toArray) hC.out.len (show W5.heap.size < W5.heap.size + 1 from Nat.lt_succ_self _))
      have hrow6 := hid (hrow5.out.alloc (.cells cs.toArray 28))
      have hB6 := hid (hB5.out.alloc hB5.out.size (.cells cs.toArray 28))
      have hw6 := hid hB6.out.size
      refine hK'.out _ _ (by exact True.intro) (fun hHeld => ?_)
      clear hK' K
      refine wpAnyH_ready (rs := [11]) (by kernel_rfl) (by simp) (AllReadyH.cons rfl (fun K hK => ?_) AllReadyH.nil)
      have hK' := hid hK
      clear hK
      rw [if_pos (by kernel_rfl)]
      simp only [ly1, ly2, ly3]
      refine wp_appends (.tmp 27) (.tmp 32) 41 28 rfl w.heap.size i0 _ 32 32 Try.underlying41 hi0 hz0 hz1 hz2 (by decide) (by decide) A4 m4 c4 (hashCells P4) (W5.heap.size + 1) (some ⟨W5.heap.size, 0, none⟩) 1 1 cs rfl rfl (fun h => by cases h) (by exact hone.out) (by omega) (by omega) (by exact hrow6.out) (by exact hN6.out) (by exact hw6.out) ?_
      intro A7 c7 W7 hrow7 hb7 hg7
      have hB7 := hid (hB6.out.trans hb7)
      have hrow7' := hid hrow7
      clear hrow7 hb7 hg7
      refine hK'.out _ _ (by exact True.intro) (fun hHeld => ?_)
      clear hK' K
      refine wpAnyH_take (i := 12) (v := .slice A7 (m4 + 1) c7) rfl (by kernel_rfl) (by kernel_rfl) (by kernel_rfl) (fun _ _ _ h => h) (yieldsIf_assign _ rfl rfl rfl) hHeld ?_
      simp only [ly1, ly2, ly3, Act.put, ly5, ly6, ly7]
      refine wpAnyH_done (by kernel_rfl) ?_ _
      go_wp2_with fail
      go_ret
      exact ⟨A7, c7, by rw [hfin.out, List.length_append, List.length_singleton, hm4'.out]; rfl, by rw [hfin.out, List.length_append, List.length_singleton, hm4'.out, hashCells_append, hashCells_one, hcs'.out]; exact hrow7'.out, by rw [hfin.out, List.length_append, List.length_singleton, hm4'.out]; omega, hB7.out⟩
    · have hiki : ¬ (m : Int) ≤ (k : Int) := by omega
      have hsub := IntWalk.i64_in ((m : Int) - (k : Int)) (by omega)
      have es : ((m - k : Nat) : Int) = (m : Int) - (k : Int) := by omega
      rw [if_neg hik] at htwo
      have hrec := hid (fun W (h : Below w.heap.size w W) => ih (n - k) (by omega) (m - k) (some (p.add k)) (c - k) (xs.drop k) false B W (hXb.out W h) (Nat.le_trans hBw h.size) (by omega) (by omega) (by omega) (by omega) hsb.out)
      rw [es] at hrec
      have hro := hid (fun W (h : Below w.heap.size w W) => rRoot_any k (some p) c (xs.take k) B W (hXa.out W h) (Nat.le_trans hBw h.size) (by omega) (by omega) hsa.out)
      have hC := hid (hash_root (xs.take k))
      clear es
      unfold hv at hro
      obtain ⟨P4, hP4⟩ : ∃ P, Mth.subOf rootH (m - k) (xs.drop k) false = P := ⟨_, rfl⟩
      obtain ⟨R4, hR4⟩ : ∃ R, rootH (xs.take k) = R := ⟨_, rfl⟩
      obtain ⟨cs, hcs⟩ : ∃ cs, byteCells R4 = cs := ⟨_, rfl⟩
      rw [hP4] at hrec htwo
      rw [hR4] at hro htwo hC
      rw [hcs] at hro hC
      have hone := hid (show ∀ u ∈ cs, u.oneCell' = true from fun u hu => byteCells_one R4 u (by rw [hcs]; exact hu))
      have hfin := hid htwo
      have hcs' := hid hcs
      clear hcs htwo hP4 hR4 hXa hXb hsa hsb hX hs ih hk
      go_enter Try.func56, Try.ntmps56
      go_wp2_with fail
      refine (hcut.out _).mono ?_
      rintro e W2 ⟨rfl, hb2⟩
      have hB2 := hid (below_up hb2 (Below.refl _ _))
      clear hb2
      go_wp2_with fail
      refine wp_region_held_drew (S := fun _ => True) (by kernel_rfl) (by exact True.intro) (fun hHeld => ?_)
      refine wpAnyH_take (i := 0) (v := .int .i64 (m : Int)) rfl (by kernel_rfl) (by kernel_rfl) (by kernel_rfl) (fun _ _ _ h => h) (yieldsIf_move _ rfl rfl rfl) hHeld ?_
      simp only [ly1, ly2, ly3, Act.put, ly5, ly6, ly7]
      refine wpAnyH_take (i := 1) (v := .int .i64 (k : Int)) rfl (by kernel_rfl) (by kernel_rfl) (by kernel_rfl) (fun _ _ _ h => h) (yieldsIf_move _ rfl rfl rfl) hHeld ?_
      simp only [ly1, ly2, ly3, Act.put, ly5, ly6, ly7]
      refine wpAnyH_take (i := 2) (v := .int .i64 ((m : Int) - (k : Int))) rfl (by kernel_rfl) (by kernel_rfl) (by kernel_rfl) (fun _ _ _ h => h) (.inl ⟨by kernel_rfl, fun w _ => by go_simp⟩) hHeld ?_
      simp only [ly1, ly2, ly3, Act.put, ly5, ly6, ly7]
      refine wpAnyH_take (i := 3) (v := .slice (some p) n c) rfl (by kernel_rfl) (by kernel_rfl) (by kernel_rfl) (fun _ _ _ h => h) (yieldsIf_move _ rfl rfl rfl) hHeld ?_
      simp only [ly1, ly2, ly3, Act.put, ly5, ly6, ly7]
      refine wpAnyH_take (i := 4) (v := .int .i64 (k : Int)) rfl (by kernel_rfl) (by kernel_rfl) (by kernel_rfl) (fun _ _ _ h => h) (yieldsIf_move _ rfl rfl rfl) hHeld ?_
      simp only [ly1, ly2, ly3, Act.put, ly5, ly6, ly7]
      refine wpAnyH_take (i := 5) (v := .slice (some (p.add k)) (n - k) (c - k)) rfl (by kernel_rfl) (by kernel_rfl) (by kernel_rfl) (fun _ _ _ h => h) (.inl ⟨by kernel_rfl, fun w _ => by go_simp⟩) hHeld ?_
      simp only [ly1, ly2, ly3, Act.put, ly5, ly6, ly7]
      refine wpAnyH_take (i := 7) (v := .slice (some p) n c) rfl (by kernel_rfl) (by kernel_rfl) (by kernel_rfl) (fun _ _ _ h => h) (yieldsIf_move _ rfl rfl rfl) hHeld ?_
      simp only [ly1, ly2, ly3, Act.put, ly5, ly6, ly7]
      refine wpAnyH_take (i := 8) (v := .int .i64 (k : Int)) rfl (by kernel_rfl) (by kernel_rfl) (by kernel_rfl) (fun _ _ _ h => h) (yieldsIf_move _ rfl rfl rfl) hHeld ?_
      simp only [ly1, ly2, ly3, Act.put, ly5, ly6, ly7]
      refine wpAnyH_take (i := 9) (v := .slice (some p) k c) rfl (by kernel_rfl) (by kernel_rfl) (by kernel_rfl) (fun _ _ _ h => h) (.inl ⟨by kernel_rfl, fun w _ => by go_simp⟩) hHeld ?_
      simp only [ly1, ly2, ly3, Act.put, ly5, ly6, ly7]
      refine wpAnyH_ready (rs := [6]) (by kernel_rfl) (by simp) (AllReadyH.cons rfl (fun K hK => ?_) AllReadyH.nil)
      have hK' := hid hK
      clear hK
      rw [if_pos (by kernel_rfl)]
      simp only [ly1, ly2, ly3]
      go_simp
      refine (hrec.out _ hB2.out.drew).mono ?_
      rintro e W4 ⟨A4, c4, rfl, hrow4, hml4, hb4⟩
      generalize hm4 : P4.length = m4 at *
      have hm4' := hid hm4
      clear hm4
      have hB4 := hid (below_up hb4 hB2.out.drew)
      have hrow4' := hid (row_base hrow4 (show w.heap.size ≤ _ from hB2.out.drew.size))
      clear hb4 hrow4
      refine hK'.out _ _ (by exact True.intro) (fun hHeld => ?_)
      clear hK' K
      refine wpAnyH_ready (rs := [10]) (by kernel_rfl) (by simp) (AllReadyH.cons rfl (fun K hK => ?_) AllReadyH.nil)
      have hK' := hid hK
      clear hK
      rw [if_pos (by kernel_rfl)]
      simp only [ly1, ly2, ly3]
      go_simp
      refine (hro.out _ hB4.out).mono ?_
      rintro e W5 ⟨rfl, hb5⟩
      have hB5 := hid (below_up hb5 hB4.out)
      have hrow5 := hid (row_below hrow4'.out hb5)
      clear hb5
      refine hK'.out _ _ (by exact True.intro) (fun hHeld => ?_)
      clear hK' K
      refine wpAnyH_ready (rs := [11]) (by kernel_rfl) (by simp) (AllReadyH.cons rfl (fun K hK => ?_) AllReadyH.nil)
      have hK' := hid hK
      clear hK
      rw [if_pos (by kernel_rfl)]
      simp only [ly1, ly2, ly3]
      refine wp_buildSlice_one 41 28 (.tmp 44) rfl i0 _ Try.underlying41 hi0 hz0 cs.toArray rfl (by rw [hz1, List.size_toArray, hC.out.len]) (by rw [List.size_toArray, hC.out.len]; decide) (by rw [List.size_toArray, hC.out.len]; decide) ?_
      have hN6 := hid (At.of_holds (sz := 32) (n := 1) (Holds.new W5 28 cs.toArray) hC.out.len (show W5.heap.size < W5.heap.size + 1 from Nat.lt_succ_self _))
      have hrow6 := hid (hrow5.out.alloc (.cells cs.toArray 28))
      have hB6 := hid (hB5.out.alloc hB5.out.size (.cells cs.toArray 28))
      have hw6 := hid hB6.out.size
      refine hK'.out _ _ (by exact True.intro) (fun hHeld => ?_)
      clear hK' K
      refine wpAnyH_ready (rs := [12]) (by kernel_rfl) (by simp) (AllReadyH.cons rfl (fun K hK => ?_) AllReadyH.nil)
      have hK' := hid hK
      clear hK
      rw [if_pos (by kernel_rfl)]
      simp only [ly1, ly2, ly3]
      refine wp_appends (.tmp 40) (.tmp 45) 41 28 rfl w.heap.size i0 _ 32 32 Try.underlying41 hi0 hz0 hz1 hz2 (by decide) (by decide) A4 m4 c4 (hashCells P4) (W5.heap.size + 1) (some ⟨W5.heap.size, 0, none⟩) 1 1 cs rfl rfl (fun h => by cases h) (by exact hone.out) (by omega) (by omega) (by exact hrow6.out) (by exact hN6.out) (by exact hw6.out) ?_
      intro A7 c7 W7 hrow7 hb7 hg7
      have hB7 := hid (hB6.out.trans hb7)
      have hrow7' := hid hrow7
      clear hrow7 hb7 hg7
      refine hK'.out _ _ (by exact True.intro) (fun hHeld => ?_)
      clear hK' K
      refine wpAnyH_take (i := 13) (v := .slice A7 (m4 + 1) c7) rfl (by kernel_rfl) (by kernel_rfl) (by kernel_rfl) (fun _ _ _ h => h) (yieldsIf_assign _ rfl rfl rfl) hHeld ?_
      simp only [ly1, ly2, ly3, Act.put, ly5, ly6, ly7]
      refine wpAnyH_done (by kernel_rfl) ?_ _
      go_wp2_with fail
      go_ret
      exact ⟨A7, c7, by rw [hfin.out, List.length_append, List.length_singleton, hm4'.out]; rfl, by rw [hfin.out, List.length_append, List.length_singleton, hm4'.out, hashCells_append, hashCells_one, hcs'.out]; exact hrow7'.out, by rw [hfin.out, List.length_append, List.length_singleton, hm4'.out]; omega, hB7.out⟩

end Go.Proofs.Ytenfhmpjhbpkpaa
namespace Go.Proofs.Ytenfhmpjhbpkpaa
open Go.RowKit
open Go.Lib (strCells strCells_length strCells_oneCell)
attribute [local irreducible] Sha.compress Sha.blocks Sha.sha Sha.pad

theorem climb_len : ∀ (f : Nat) (h : List UInt8) (i n : Nat) (ps : List (List UInt8)), h.length = 32 → (Mth.climb nodeH f h i n ps).1.length = 32
  | 0, h, i, n, ps, hh => hh
  | f + 1, h, i, n, ps, hh => by
    unfold Mth.climb
    split
    · exact hh
    · split
      · exact hh
      · split
        · exact nodeH_len _ _
        · exact nodeH_len _ _

theorem dropLast_take {α : Type} (xs : List α) (q : Nat) (h : xs.length = q) : xs.dropLast = xs.take (q - 1) := by rw [List.dropLast_eq_take, h]

set_option maxRecDepth 100000 in
set_option maxHeartbeats 1000000 in
theorem rClimb_one (h : List UInt8) (i : Int) (A : Option Addr) (q c : Nat) (w : World) (hh : h.length = 32) : Calls Try.prog 54 #[hv h, .int .i64 i, .int .i64 1, .slice A q c] w fun e w' => e = .returned (.tuple #[hv h, .bool (decide (q = 0))]) ∧ Below w.heap.size w w' := by
  have hC := hid (hash_cells h hh)
  have hq : ((q : Int) == 0) = decide (q = 0) := by
    rw [Bool.eq_iff_iff]
    simp
  have hq' := hid hq
  clear hq
  unfold hv
  generalize byteCells h = ch at *
  obtain ⟨W0, hW0⟩ : ∃ W0, (w.alloc (.cells ch.toArray 28)).alloc (.cells z32 28) = W0 := ⟨_, rfl⟩
  have e1 : (w.alloc (.cells ch.toArray 28)).heap.size = w.heap.size + 1 := by simp
  have hH : Holds W0 w.heap.size 28 ch := by rw [← hW0]; exact (Holds.new w 28 ch.toArray).alloc _
  have hR : Holds W0 (w.heap.size + 1) 28 z32.toList := by rw [← hW0, ← e1]; exact Holds.new _ 28 z32
  have hbl : Below w.heap.size w W0 := by rw [← hW0]; exact ((Below.refl _ _).alloc (Nat.le_refl _) _).alloc (by simp) _
  have hW0' := hid hW0
  have hH0 := hid hH
  have hR0 := hid hR
  have hb0 := hid hbl
  have e1' := hid e1
  clear hW0 hH hR hbl e1
  go_enter Try.func54, Try.ntmps54
  go_wp2_with (first
    | ((with_reducible refine at_slot (some 8) ?_); refine wpList_run rfl (.pointer (some ⟨(w.alloc (.cells ch.toArray 28)).heap.size, 0, none⟩)) ((w.alloc (.cells ch.toArray 28)).alloc (.cells z32 28)) (by kernel_rfl) ?_; rw [hW0'.out, e1'.out])
    | ((with_reducible refine at_slot (some 18) ?_); refine wpList_load_mid rfl 28 (.tmp 4) rfl (w.heap.size) 0 rfl ch _ (h_all hH0.out) Try.underlying28 rfl (by exact hC.out.size') ?_)
    | ((with_reducible refine at_slot none ?_); refine wpList_store_mid rfl 28 (.tmp 8) (.tmp 18) rfl (w.heap.size + 1) 0 ch.toArray rfl rfl (by exact hC.out.there' hR0.out rfl) (by exact hC.out.size) (by exact hC.out.one) ?_; generalize hWW3 : World.setCells _ _ _ _ = W3; obtain ⟨hHW3, hBW3⟩ := hC.out.set hR0.out rfl hWW3 hb0.out (by omega))
    | fail)
  exact bodyPost_ret (results_ct rfl _ _ (w.heap.size + 1) 28 _ (0, 0) _ rfl hHW3 (.bool (decide (q = 0))) (by rw [← hq'.out]; rfl) Try.underlying28 rfl (by exact hC.out.size)) rfl ⟨rfl, hBW3⟩

set_option maxRecDepth 100000 in
set_option maxHeartbeats 1000000 in
theorem rClimb_none (h : List UInt8) (i : Int) (n : Nat) (hn : 2 ≤ n) (A : Option Addr) (c : Nat) (w : World) (hh : h.length = 32) : Calls Try.prog 54 #[hv h, .int .i64 i, .int .i64 (n : Int), .slice A 0 c] w fun e w' => e = .returned (.tuple #[hv h, .bool false]) ∧ Below w.heap.size w w' := by
  have hC := hid (hash_cells h hh)
  have hn1 : ¬ (n : Int) = 1 := by omega
  unfold hv
  generalize byteCells h = ch at *
  obtain ⟨W0, hW0⟩ : ∃ W0, (w.alloc (.cells ch.toArray 28)).alloc (.cells z32 28) = W0 := ⟨_, rfl⟩
  have e1 : (w.alloc (.cells ch.toArray 28)).heap.size = w.heap.size + 1 := by simp
  have hH : Holds W0 w.heap.size 28 ch := by rw [← hW0]; exact (Holds.new w 28 ch.toArray).alloc _
  have hR : Holds W0 (w.heap.size + 1) 28 z32.toList := by rw [← hW0, ← e1]; exact Holds.new _ 28 z32
  have hbl : Below w.heap.size w W0 := by rw [← hW0]; exact ((Below.refl _ _).alloc (Nat.le_refl _) _).alloc (by simp) _
  have hW0' := hid hW0
  have hH0 := hid hH
  have hR0 := hid hR
  have hb0 := hid hbl
  have e1' := hid e1
  clear hW0 hH hR hbl e1
  go_enter Try.func54, Try.ntmps54
  go_wp2_with (first
    | ((with_reducible refine at_slot (some 8) ?_); refine wpList_run rfl (.pointer (some ⟨(w.alloc (.cells ch.toArray 28)).heap.size, 0, none⟩)) ((w.alloc (.cells ch.toArray 28)).alloc (.cells z32 28)) (by kernel_rfl) ?_; rw [hW0'.out, e1'.out])
    | ((with_reducible refine at_slot (some 25) ?_); refine wpList_load_mid rfl 28 (.tmp 4) rfl (w.heap.size) 0 rfl ch _ (h_all hH0.out) Try.underlying28 rfl (by exact hC.out.size') ?_)
    | ((with_reducible refine at_slot none ?_); refine wpList_store_mid rfl 28 (.tmp 8) (.tmp 25) rfl (w.heap.size + 1) 0 ch.toArray rfl rfl (by exact hC.out.there' hR0.out rfl) (by exact hC.out.size) (by exact hC.out.one) ?_; generalize hWW3 : World.setCells _ _ _ _ = W3; obtain ⟨hHW3, hBW3⟩ := hC.out.set hR0.out rfl hWW3 hb0.out (by omega))
    | fail)
  exact bodyPost_ret (results_ct rfl _ _ (w.heap.size + 1) 28 _ (0, 0) _ rfl hHW3 (.bool false) rfl Try.underlying28 rfl (by exact hC.out.size)) rfl ⟨rfl, hBW3⟩

set_option maxRecDepth 100000 in
set_option maxHeartbeats 6000000 in
theorem rClimb_any : ∀ (f : Nat) (h : List UInt8) (i n : Nat) (A : Option Addr) (q c : Nat) (ps : List (List UInt8)) (B : Nat) (w : World), h.length = 32 → Hashs w B A q ps → B ≤ w.heap.size → q ≤ c → q ≤ 10000000000000 → i < n → n ≤ f + 1 → n ≤ 1000 →
    Calls Try.prog 54 #[hv h, .int .i64 (i : Int), .int .i64 (n : Int), .slice A q c] w fun e w' => e = .returned (.tuple #[hv (Mth.climb nodeH f h i n ps).1, .bool (Mth.climb nodeH f h i n ps).2]) ∧ Below w.heap.size w w'
  | 0, h, i, n, A, q, c, ps, B, w, hh, hP, hBw, hqc, hq, hi, hn, hn2 => by
    obtain rfl : n = 1 := by omega
    have hl := hP.len
    have e : ps.isEmpty = decide (q = 0) := by
      cases ps with
      | nil =>
        have : q = 0 := by simpa using hl.symm
        simp [this]
      | cons x xs =>
        have : q ≠ 0 := by
          intro h0
          rw [h0] at hl
          simp at hl
        simp [this]
    have hc := rClimb_one h i A q c w hh
    simp only [Mth.climb, e]
    exact hc
  | f + 1, h, i, n, A, q, c, ps, B, w, hh, hP, hBw, hqc, hq, hi, hn, hn2 => by
    have hl := hP.len
    by_cases h1 : n = 1
    · subst h1
      have e : ps.isEmpty = decide (q = 0) := by
        cases ps with
        | nil =>
          have : q = 0 := by simpa using hl.symm
          simp [this]
        | cons x xs =>
          have : q ≠ 0 := by
            intro h0
            rw [h0] at hl
            simp at hl
          simp [this]
      have hc := rClimb_one h i A q c w hh
      simp only [Mth.climb, e, Nat.le_refl, if_true]
      exact hc
    · have hn1 : ¬ n ≤ 1 := by omega
      by_cases hq0 : q = 0
      · subst hq0
        obtain rfl : ps = [] := List.length_eq_zero_iff.1 hl
        have hc := rClimb_none h i n (by omega) A c w hh
        simp only [Mth.climb, if_neg hn1, List.getLast?_nil]
        exact hc
      · obtain ⟨p, top, rfl, hpB, htm, htx, ht32, htc⟩ := hP.get (show q - 1 < q by omega)
        have hlast : ps.getLast? = some top := by rw [List.getLast?_eq_getElem?, hl]; exact htx
        obtain ⟨k1, k2, -, -⟩ := Mth.cut_spec n (by omega)
        have hdl := dropLast_take ps q hl
        have hPd := hid (fun W (hW : Below w.heap.size w W) => (hP.below (hW.mono hBw)).take (k := q - 1) (by omega))
        have hcut := hid (fun W => rCut_any n (by omega) (by omega) W)
        obtain ⟨k, hk⟩ : ∃ k, Mth.cut n = k := ⟨_, rfl⟩
        have htc' := hid (fun W (hW : Below w.heap.size w W) => htc.below (hW.mono hBw) (by rw [add_block]; exact hpB))
        have hCt := hid (hash_cells top ht32)
        have hCh := hid (hash_cells h hh)
        have hz := hid zero_cells
        have hn1i : ¬ (n : Int) = 1 := by omega
        have hq0i : ¬ (q : Int) = 0 := by omega
        have sq := IntWalk.i64_in ((q : Int) - 1) (by omega)
        have q1 : (0 : Int) ≤ (q : Int) - 1 := by omega
        have q2 : (q : Int) - 1 < (q : Int) := by omega
        have q3 : (q : Int) - 1 ≤ (c : Int) := by omega
        have q4 : ((q : Int) - 1).toNat = q - 1 := by omega
        have q5 : (1 : Int) ≤ (q : Int) := by omega
        have hcl : Mth.climb nodeH (f + 1) h i n ps = if i < k then (nodeH (Mth.climb nodeH f h i k (ps.take (q - 1))).1 top, (Mth.climb nodeH f h i k (ps.take (q - 1))).2)
            else (nodeH top (Mth.climb nodeH f h (i - k) (n - k) (ps.take (q - 1))).1, (Mth.climb nodeH f h (i - k) (n - k) (ps.take (q - 1))).2) := by
          simp only [Mth.climb, if_neg hn1, hlast, hk, hdl]
        rw [hk] at hcut k1 k2
        by_cases hik : i < k
        · have hiki : (i : Int) < (k : Int) := by omega
          rw [if_pos hik] at hcl
          have hrec := hid (fun W (hW : Below w.heap.size w W) => rClimb_any f h i k (some p) (q - 1) c (ps.take (q - 1)) B W hh (hPd.out W hW) (Nat.le_trans hBw hW.size) (by omega) (by omega) hik (by omega) (by omega))
          have hrl := climb_len f h i k (ps.take (q - 1)) hh
          obtain ⟨R, hR⟩ : ∃ R, Mth.climb nodeH f h i k (ps.take (q - 1)) = R := ⟨_, rfl⟩
          rw [hR] at hrec hcl hrl
          obtain ⟨r, ok⟩ := R
          have hCr := hid (hash_cells r hrl)
          have hro := hid (fun W => rOver_any r top hrl ht32 W)
          have hCn := hid (hash_node r top)
          rw [hcl]
          clear hcl hR hrl hP htc hpB htm htx ht32 hlast hdl hh hl hk
          unfold hv at *
          dsimp only at hrec hro ⊢
          generalize byteCells (nodeH r top) = cn at *
          generalize byteCells r = cr at *
          generalize byteCells top = ct at *
          generalize byteCells h = ch at *
          obtain ⟨W0, hW0⟩ : ∃ W0, (w.alloc (.cells ch.toArray 28)).alloc (.cells z32 28) = W0 := ⟨_, rfl⟩
          have e1 : (w.alloc (.cells ch.toArray 28)).heap.size = w.heap.size + 1 := by simp
          have hH : Holds W0 w.heap.size 28 ch := by rw [← hW0]; exact (Holds.new w 28 ch.toArray).alloc _
          have hR : Holds W0 (w.heap.size + 1) 28 z32.toList := by rw [← hW0, ← e1]; exact Holds.new _ 28 z32
          have hbl : Below w.heap.size w W0 := by rw [← hW0]; exact ((Below.refl _ _).alloc (Nat.le_refl _) _).alloc (by simp) _
          have hW0' := hid hW0
          have hH0 := hid hH
          have hR0 := hid hR
          have hb0 := hid hbl
          have e1' := hid e1
          clear hW0 hH hR hbl e1
          go_enter Try.func54, Try.ntmps54
          go_wp2_with (first
            | ((with_reducible refine at_slot (some 8) ?_); refine wpList_run rfl (.pointer (some ⟨(w.alloc (.cells ch.toArray 28)).heap.size, 0, none⟩)) ((w.alloc (.cells ch.toArray 28)).alloc (.cells z32 28)) (by kernel_rfl) ?_; rw [hW0'.out, e1'.out])
            | fail)
          refine (hcut.out _).mono ?_
          rintro e W2 ⟨rfl, hb2⟩
          have hH2 := hid (hH0.out.below hb2 hH0.out.lt)
          have hR2 := hid (hR0.out.below hb2 hR0.out.lt)
          have hB2 := hid (below_up hb2 hb0.out)
          clear hb2
          rename_i hK1
          refine hK1 _ _ ?_
          clear hK1
          go_wp2_with (first
            | ((with_reducible refine at_slot (some 33) ?_); refine wpList_load_far rfl 28 (.tmp 32) rfl (p.add ((q - 1) * 32)) rfl ct _ (htc'.out _ hB2.out) Try.underlying28 rfl (by exact hCt.out.size') ?_)
            | ((with_reducible refine at_slot (some 11) ?_); refine wpList_run rfl (.pointer (some ⟨W2.heap.size, 0, none⟩)) (W2.alloc (.cells z32 28)) (by kernel_rfl) ?_)
            | ((with_reducible refine at_slot none ?_); refine wpList_store_mid rfl 28 (.tmp 11) (.tmp 33) rfl W2.heap.size 0 ct.toArray rfl rfl (by exact hCt.out.there W2) (by exact hCt.out.size) (by exact hCt.out.one) ?_; generalize hW3 : World.setCells _ _ _ _ = W3; obtain ⟨hT3, hb3⟩ := hCt.out.new hW3; have hT3' := hid hT3; have hH3 := hid (hH2.out.below hb3 hH2.out.lt); have hR3 := hid (hR2.out.below hb3 hR2.out.lt); have hB3 := hid (below_up hb3 hB2.out); have hge11 : w.heap.size + 2 ≤ W2.heap.size := (by have := hR2.out.lt; omega); clear hW3 hT3 hb3)
            | fail)
          have hdr : Below W3.heap.size W3 W3.drew := (Below.refl _ _).drew
          have hT4 := hid (hT3'.out.below hdr hT3'.out.lt)
          have hH4 := hid (hH3.out.below hdr hH3.out.lt)
          have hR4 := hid (hR3.out.below hdr hR3.out.lt)
          have hB4 := hid (below_up hdr hB3.out)
          clear hdr hT3' hH3 hR3 hB3
          refine wp_region_held_drew (S := fun W => Holds W w.heap.size 28 ch) (by kernel_rfl) (by exact hH4.out) (fun hHeld => ?_)
          generalize W3.drew = Wb at *
          refine wpAnyH_take (i := 0) (v := .agg ch.toArray) rfl (by kernel_rfl) (by kernel_rfl) (by kernel_rfl) (fun _ _ _ h => h) (yieldsIf_load_mid (by kernel_rfl) _ _ rfl _ _ rfl _ _ (fun W h => h_all h) Try.underlying28 rfl (by exact hCh.out.size')) hHeld ?_
          simp only [ly1, ly2, ly3, Act.put, ly5, ly6, ly7]
          refine wpAnyH_take (i := 1) (v := .int .i64 (i : Int)) rfl (by kernel_rfl) (by kernel_rfl) (by kernel_rfl) (fun _ _ _ h => h) (yieldsIf_move _ rfl rfl rfl) hHeld ?_
          simp only [ly1, ly2, ly3, Act.put, ly5, ly6, ly7]
          refine wpAnyH_take (i := 2) (v := .int .i64 (k : Int)) rfl (by kernel_rfl) (by kernel_rfl) (by kernel_rfl) (fun _ _ _ h => h) (yieldsIf_move _ rfl rfl rfl) hHeld ?_
          simp only [ly1, ly2, ly3, Act.put, ly5, ly6, ly7]
          refine wpAnyH_take (i := 3) (v := .slice (some p) q c) rfl (by kernel_rfl) (by kernel_rfl) (by kernel_rfl) (fun _ _ _ h => h) (yieldsIf_move _ rfl rfl rfl) hHeld ?_
          simp only [ly1, ly2, ly3, Act.put, ly5, ly6, ly7]
          refine wpAnyH_take (i := 4) (v := .slice (some p) q c) rfl (by kernel_rfl) (by kernel_rfl) (by kernel_rfl) (fun _ _ _ h => h) (yieldsIf_move _ rfl rfl rfl) hHeld ?_
          simp only [ly1, ly2, ly3, Act.put, ly5, ly6, ly7]
          refine wpAnyH_take (i := 5) (v := .int .i64 (q : Int)) rfl (by kernel_rfl) (by kernel_rfl) (by kernel_rfl) (fun _ _ _ h => h) (.inl ⟨by kernel_rfl, fun w _ => by go_simp⟩) hHeld ?_
          simp only [ly1, ly2, ly3, Act.put, ly5, ly6, ly7]
          refine wpAnyH_take (i := 6) (v := .int .i64 ((q : Int) - 1)) rfl (by kernel_rfl) (by kernel_rfl) (by kernel_rfl) (fun _ _ _ h => h) (.inl ⟨by kernel_rfl, fun w _ => by go_simp⟩) hHeld ?_
          simp only [ly1, ly2, ly3, Act.put, ly5, ly6, ly7]
          refine wpAnyH_take (i := 7) (v := .slice (some p) (q - 1) c) rfl (by kernel_rfl) (by kernel_rfl) (by kernel_rfl) (fun _ _ _ h => h) (.inl ⟨by kernel_rfl, fun w _ => by go_simp⟩) hHeld ?_
          simp only [ly1, ly2, ly3, Act.put, ly5, ly6, ly7]
          have hb_0 := hid (Below.refl Wb.heap.size Wb)
          refine wpAnyH_ready (rs := [8, 12]) (by kernel_rfl) (by simp) (AllReadyH.cons rfl (fun K hK => ?_) (AllReadyH.cons rfl (fun K hK => ?_) AllReadyH.nil))
          · skip
            have hK' := hid hK
            clear hK
            rw [if_pos (by kernel_rfl)]
            simp only [ly1, ly2, ly3]
            go_simp
            refine (hrec.out _ (below_up (hb_0.out) hB4.out)).mono ?_
            rintro e W_call_1 ⟨rfl, hbc⟩
            have hb_1 := hid (hb_0.out.trans (hbc.mono hb_0.out.size))
            clear hbc hb_0
            refine hK'.out _ _ (by exact (hH4.out.below hb_1.out hH4.out.lt)) (fun hHeld => ?_)
            clear hK' K
            refine wpAnyH_take (i := 9) (v := .tuple #[.agg cr.toArray, .bool ok]) rfl (by kernel_rfl) (by kernel_rfl) (by kernel_rfl) (fun _ _ _ h => h) (yieldsIf_move _ rfl rfl rfl) hHeld ?_
            simp only [ly1, ly2, ly3, Act.put, ly5, ly6, ly7]
            refine wpAnyH_take (i := 10) (v := .agg cr.toArray) rfl (by kernel_rfl) (by kernel_rfl) (by kernel_rfl) (fun _ _ _ h => h) (.inl ⟨by kernel_rfl, fun w _ => by go_simp⟩) hHeld ?_
            simp only [ly1, ly2, ly3, Act.put, ly5, ly6, ly7]
            refine wpAnyH_take (i := 11) (v := .bool ok) rfl (by kernel_rfl) (by kernel_rfl) (by kernel_rfl) (fun _ _ _ h => h) (.inl ⟨by kernel_rfl, fun w _ => by go_simp⟩) hHeld ?_
            simp only [ly1, ly2, ly3, Act.put, ly5, ly6, ly7]
            refine wpAnyH_ready (rs := [12]) (by kernel_rfl) (by simp) (AllReadyH.cons rfl (fun K hK => ?_) AllReadyH.nil)
            have hK' := hid hK
            clear hK
            rw [if_pos (by kernel_rfl)]
            simp only [ly1, ly2, ly3]
            obtain ⟨g12, hqg12⟩ : ∃ g, g = W_call_1.heap.size := ⟨_, rfl⟩
            refine wp_run (.pointer (some ⟨g12, 0, none⟩)) (W_call_1.alloc (.cells z32 28)) (by rw [hqg12]; kernel_rfl) ?_
            have hb_2 := hid (hb_1.out.alloc hb_1.out.size (.cells z32 28))
            have hN2_g12 := hid (show Holds (W_call_1.alloc (.cells z32 28)) g12 28 (z32).toList from by rw [hqg12]; exact Holds.new W_call_1 _ _)
            have hgeg12 : Wb.heap.size ≤ g12 := by rw [hqg12]; exact hb_1.out.size
            generalize hWg12 : W_call_1.alloc (.cells z32 28) = W_g12_2 at *
            clear hWg12 hqg12 hb_1
            refine hK'.out _ _ (by exact (hH4.out.below hb_2.out hH4.out.lt)) (fun hHeld => ?_)
            clear hK' K
            refine wpAnyH_ready (rs := [13]) (by kernel_rfl) (by simp) (AllReadyH.cons rfl (fun K hK => ?_) AllReadyH.nil)
            have hK' := hid hK
            clear hK
            rw [if_pos (by kernel_rfl)]
            simp only [ly1, ly2, ly3]
            refine wp_store_mid _ _ _ rfl g12 0 cr.toArray rfl rfl (by exact hCr.out.there' hN2_g12.out rfl) (by exact hCr.out.size) (by exact hCr.out.one) ?_
            generalize hW5 : World.setCells _ _ _ _ = W5
            obtain ⟨hG5, hb5⟩ := hCr.out.set hN2_g12.out rfl hW5 hb_2.out (by omega)
            have hG5' := hid hG5
            have hT5 := hid (hT4.out.below hb5 hT4.out.lt)
            have hH5 := hid (hH4.out.below hb5 hH4.out.lt)
            have hR5 := hid (hR4.out.below hb5 hR4.out.lt)
            have hB5 := hid (below_up hb5 hB4.out)
            clear hW5 hG5 hb5 hb_2 hN2_g12
            refine hK'.out _ _ (by exact hH5.out) (fun hHeld => ?_)
            clear hK' K
            refine wpAnyH_take (i := 14) (v := .bool ok) rfl (by kernel_rfl) (by kernel_rfl) (by kernel_rfl) (fun _ _ _ h => h) (yieldsIf_assign _ rfl rfl rfl) hHeld ?_
            simp only [ly1, ly2, ly3, Act.put, ly5, ly6, ly7]
            refine wpAnyH_done (by kernel_rfl) ?_ _
            clear hHeld
            go_wp2_with (first
              | ((with_reducible refine at_slot (some 49) ?_); refine wpList_load_mid rfl 28 (.tmp 12) rfl (g12) 0 rfl cr _ (h_all hG5'.out) Try.underlying28 rfl (by exact hCr.out.size') ?_)
              | ((with_reducible refine at_slot (some 50) ?_); refine wpList_load_mid rfl 28 (.tmp 11) rfl (W2.heap.size) 0 rfl ct _ (h_all hT5.out) Try.underlying28 rfl (by exact hCt.out.size') ?_)
              | fail)
            refine (hro.out _).mono ?_
            rintro e W6 ⟨rfl, hb6⟩
            have hR6 := hid (hR5.out.below hb6 hR5.out.lt)
            have hB6 := hid (below_up hb6 hB5.out)
            clear hb6
            rename_i hK1
            refine hK1 _ _ ?_
            clear hK1
            go_wp2_with (first
              | ((with_reducible refine at_slot none ?_); refine wpList_store_mid rfl 28 (.tmp 8) (.tmp 51) rfl (w.heap.size + 1) 0 cn.toArray rfl rfl (by exact hCn.out.there' hR6.out rfl) (by exact hCn.out.size) (by exact hCn.out.one) ?_; generalize hWW7 : World.setCells _ _ _ _ = W7; obtain ⟨hHW7, hBW7⟩ := hCn.out.set hR6.out rfl hWW7 hB6.out (by omega))
              | fail)
            exact bodyPost_ret (results_ct rfl _ _ (w.heap.size + 1) 28 _ (0, 0) _ rfl hHW7 (.bool ok) rfl Try.underlying28 rfl (by exact hCn.out.size)) rfl ⟨rfl, hBW7⟩

          · skip
            have hK' := hid hK
            clear hK
            rw [if_pos (by kernel_rfl)]
            simp only [ly1, ly2, ly3]
            obtain ⟨g12, hqg12⟩ : ∃ g, g = Wb.heap.size := ⟨_, rfl⟩
            refine wp_run (.pointer (some ⟨g12, 0, none⟩)) (Wb.alloc (.cells z32 28)) (by rw [hqg12]; kernel_rfl) ?_
            have hb_1 := hid (hb_0.out.alloc hb_0.out.size (.cells z32 28))
            have hN1_g12 := hid (show Holds (Wb.alloc (.cells z32 28)) g12 28 (z32).toList from by rw [hqg12]; exact Holds.new Wb _ _)
            have hgeg12 : Wb.heap.size ≤ g12 := by rw [hqg12]; exact hb_0.out.size
            generalize hWg12 : Wb.alloc (.cells z32 28) = W_g12_1 at *
            clear hWg12 hqg12 hb_0
            refine hK'.out _ _ (by exact (hH4.out.below hb_1.out hH4.out.lt)) (fun hHeld => ?_)
            clear hK' K
            refine wpAnyH_ready (rs := [8]) (by kernel_rfl) (by simp) (AllReadyH.cons rfl (fun K hK => ?_) AllReadyH.nil)
            have hK' := hid hK
            clear hK
            rw [if_pos (by kernel_rfl)]
            simp only [ly1, ly2, ly3]
            go_simp
            refine (hrec.out _ (below_up (hb_1.out) hB4.out)).mono ?_
            rintro e W_call_2 ⟨rfl, hbc⟩
            have hb_2 := hid (hb_1.out.trans (hbc.mono hb_1.out.size))
            have hN2_g12 := hid (hN1_g12.out.below hbc hN1_g12.out.lt)
            clear hbc hb_1 hN1_g12
            refine hK'.out _ _ (by exact (hH4.out.below hb_2.out hH4.out.lt)) (fun hHeld => ?_)
            clear hK' K
            refine wpAnyH_take (i := 9) (v := .tuple #[.agg cr.toArray, .bool ok]) rfl (by kernel_rfl) (by kernel_rfl) (by kernel_rfl) (fun _ _ _ h => h) (yieldsIf_move _ rfl rfl rfl) hHeld ?_
            simp only [ly1, ly2, ly3, Act.put, ly5, ly6, ly7]
            refine wpAnyH_take (i := 10) (v := .agg cr.toArray) rfl (by kernel_rfl) (by kernel_rfl) (by kernel_rfl) (fun _ _ _ h => h) (.inl ⟨by kernel_rfl, fun w _ => by go_simp⟩) hHeld ?_
            simp only [ly1, ly2, ly3, Act.put, ly5, ly6, ly7]
            refine wpAnyH_take (i := 11) (v := .bool ok) rfl (by kernel_rfl) (by kernel_rfl) (by kernel_rfl) (fun _ _ _ h => h) (.inl ⟨by kernel_rfl, fun w _ => by go_simp⟩) hHeld ?_
            simp only [ly1, ly2, ly3, Act.put, ly5, ly6, ly7]
            refine wpAnyH_ready (rs := [13]) (by kernel_rfl) (by simp) (AllReadyH.cons rfl (fun K hK => ?_) AllReadyH.nil)
            have hK' := hid hK
            clear hK
            rw [if_pos (by kernel_rfl)]
            simp only [ly1, ly2, ly3]
            refine wp_store_mid _ _ _ rfl g12 0 cr.toArray rfl rfl (by exact hCr.out.there' hN2_g12.out rfl) (by exact hCr.out.size) (by exact hCr.out.one) ?_
            generalize hW5 : World.setCells _ _ _ _ = W5
            obtain ⟨hG5, hb5⟩ := hCr.out.set hN2_g12.out rfl hW5 hb_2.out (by omega)
            have hG5' := hid hG5
            have hT5 := hid (hT4.out.below hb5 hT4.out.lt)
            have hH5 := hid (hH4.out.below hb5 hH4.out.lt)
            have hR5 := hid (hR4.out.below hb5 hR4.out.lt)
            have hB5 := hid (below_up hb5 hB4.out)
            clear hW5 hG5 hb5 hb_2 hN2_g12
            refine hK'.out _ _ (by exact hH5.out) (fun hHeld => ?_)
            clear hK' K
            refine wpAnyH_take (i := 14) (v := .bool ok) rfl (by kernel_rfl) (by kernel_rfl) (by kernel_rfl) (fun _ _ _ h => h) (yieldsIf_assign _ rfl rfl rfl) hHeld ?_
            simp only [ly1, ly2, ly3, Act.put, ly5, ly6, ly7]
            refine wpAnyH_done (by kernel_rfl) ?_ _
            clear hHeld
            go_wp2_with (first
              | ((with_reducible refine at_slot (some 49) ?_); refine wpList_load_mid rfl 28 (.tmp 12) rfl (g12) 0 rfl cr _ (h_all hG5'.out) Try.underlying28 rfl (by exact hCr.out.size') ?_)
              | ((with_reducible refine at_slot (some 50) ?_); refine wpList_load_mid rfl 28 (.tmp 11) rfl (W2.heap.size) 0 rfl ct _ (h_all hT5.out) Try.underlying28 rfl (by exact hCt.out.size') ?_)
              | fail)
            refine (hro.out _).mono ?_
            rintro e W6 ⟨rfl, hb6⟩
            have hR6 := hid (hR5.out.below hb6 hR5.out.lt)
            have hB6 := hid (below_up hb6 hB5.out)
            clear hb6
            rename_i hK1
            refine hK1 _ _ ?_
            clear hK1
            go_wp2_with (first
              | ((with_reducible refine at_slot none ?_); refine wpList_store_mid rfl 28 (.tmp 8) (.tmp 51) rfl (w.heap.size + 1) 0 cn.toArray rfl rfl (by exact hCn.out.there' hR6.out rfl) (by exact hCn.out.size) (by exact hCn.out.one) ?_; generalize hWW7 : World.setCells _ _ _ _ = W7; obtain ⟨hHW7, hBW7⟩ := hCn.out.set hR6.out rfl hWW7 hB6.out (by omega))
              | fail)
            exact bodyPost_ret (results_ct rfl _ _ (w.heap.size + 1) 28 _ (0, 0) _ rfl hHW7 (.bool ok) rfl Try.underlying28 rfl (by exact hCn.out.size)) rfl ⟨rfl, hBW7⟩
        · have hiki : ¬ (i : Int) < (k : Int) := by omega
          rw [if_neg hik] at hcl
          have s3 := IntWalk.i64_in ((i : Int) - (k : Int)) (by omega)
          have s4 := IntWalk.i64_in ((n : Int) - (k : Int)) (by omega)
          have es : ((i - k : Nat) : Int) = (i : Int) - (k : Int) := by omega
          have es2 : ((n - k : Nat) : Int) = (n : Int) - (k : Int) := by omega
          have hrec := hid (fun W (hW : Below w.heap.size w W) => rClimb_any f h (i - k) (n - k) (some p) (q - 1) c (ps.take (q - 1)) B W hh (hPd.out W hW) (Nat.le_trans hBw hW.size) (by omega) (by omega) (by omega) (by omega) (by omega))
          rw [es, es2] at hrec
          clear es es2
          have hrl := climb_len f h (i - k) (n - k) (ps.take (q - 1)) hh
          obtain ⟨R, hR⟩ : ∃ R, Mth.climb nodeH f h (i - k) (n - k) (ps.take (q - 1)) = R := ⟨_, rfl⟩
          rw [hR] at hrec hcl hrl
          obtain ⟨r, ok⟩ := R
          have hCr := hid (hash_cells r hrl)
          have hro := hid (fun W => rOver_any top r ht32 hrl W)
          have hCn := hid (hash_node top r)
          rw [hcl]
          clear hcl hR hrl hP htc hpB htm htx ht32 hlast hdl hh hl hk
          unfold hv at *
          dsimp only at hrec hro ⊢
          generalize byteCells (nodeH top r) = cn at *
          generalize byteCells r = cr at *
          generalize byteCells top = ct at *
          generalize byteCells h = ch at *
          obtain ⟨W0, hW0⟩ : ∃ W0, (w.alloc (.cells ch.toArray 28)).alloc (.cells z32 28) = W0 := ⟨_, rfl⟩
          have e1 : (w.alloc (.cells ch.toArray 28)).heap.size = w.heap.size + 1 := by simp
          have hH : Holds W0 w.heap.size 28 ch := by rw [← hW0]; exact (Holds.new w 28 ch.toArray).alloc _
          have hR : Holds W0 (w.heap.size + 1) 28 z32.toList := by rw [← hW0, ← e1]; exact Holds.new _ 28 z32
          have hbl : Below w.heap.size w W0 := by rw [← hW0]; exact ((Below.refl _ _).alloc (Nat.le_refl _) _).alloc (by simp) _
          have hW0' := hid hW0
          have hH0 := hid hH
          have hR0 := hid hR
          have hb0 := hid hbl
          have e1' := hid e1
          clear hW0 hH hR hbl e1
          go_enter Try.func54, Try.ntmps54
          go_wp2_with (first
            | ((with_reducible refine at_slot (some 8) ?_); refine wpList_run rfl (.pointer (some ⟨(w.alloc (.cells ch.toArray 28)).heap.size, 0, none⟩)) ((w.alloc (.cells ch.toArray 28)).alloc (.cells z32 28)) (by kernel_rfl) ?_; rw [hW0'.out, e1'.out])
            | fail)
          refine (hcut.out _).mono ?_
          rintro e W2 ⟨rfl, hb2⟩
          have hH2 := hid (hH0.out.below hb2 hH0.out.lt)
          have hR2 := hid (hR0.out.below hb2 hR0.out.lt)
          have hB2 := hid (below_up hb2 hb0.out)
          clear hb2
          rename_i hK1
          refine hK1 _ _ ?_
          clear hK1
          go_wp2_with (first
            | ((with_reducible refine at_slot (some 33) ?_); refine wpList_load_far rfl 28 (.tmp 32) rfl (p.add ((q - 1) * 32)) rfl ct _ (htc'.out _ hB2.out) Try.underlying28 rfl (by exact hCt.out.size') ?_)
            | ((with_reducible refine at_slot (some 11) ?_); refine wpList_run rfl (.pointer (some ⟨W2.heap.size, 0, none⟩)) (W2.alloc (.cells z32 28)) (by kernel_rfl) ?_)
            | ((with_reducible refine at_slot none ?_); refine wpList_store_mid rfl 28 (.tmp 11) (.tmp 33) rfl W2.heap.size 0 ct.toArray rfl rfl (by exact hCt.out.there W2) (by exact hCt.out.size) (by exact hCt.out.one) ?_; generalize hW3 : World.setCells _ _ _ _ = W3; obtain ⟨hT3, hb3⟩ := hCt.out.new hW3; have hT3' := hid hT3; have hH3 := hid (hH2.out.below hb3 hH2.out.lt); have hR3 := hid (hR2.out.below hb3 hR2.out.lt); have hB3 := hid (below_up hb3 hB2.out); have hge11 : w.heap.size + 2 ≤ W2.heap.size := (by have := hR2.out.lt; omega); clear hW3 hT3 hb3)
            | fail)
          have hdr : Below W3.heap.size W3 W3.drew := (Below.refl _ _).drew
          have hT4 := hid (hT3'.out.below hdr hT3'.out.lt)
          have hH4 := hid (hH3.out.below hdr hH3.out.lt)
          have hR4 := hid (hR3.out.below hdr hR3.out.lt)
          have hB4 := hid (below_up hdr hB3.out)
          clear hdr hT3' hH3 hR3 hB3
          refine wp_region_held_drew (S := fun W => Holds W w.heap.size 28 ch) (by kernel_rfl) (by exact hH4.out) (fun hHeld => ?_)
          generalize W3.drew = Wb at *
          refine wpAnyH_take (i := 0) (v := .agg ch.toArray) rfl (by kernel_rfl) (by kernel_rfl) (by kernel_rfl) (fun _ _ _ h => h) (yieldsIf_load_mid (by kernel_rfl) _ _ rfl _ _ rfl _ _ (fun W h => h_all h) Try.underlying28 rfl (by exact hCh.out.size')) hHeld ?_
          simp only [ly1, ly2, ly3, Act.put, ly5, ly6, ly7]
          refine wpAnyH_take (i := 1) (v := .int .i64 (i : Int)) rfl (by kernel_rfl) (by kernel_rfl) (by kernel_rfl) (fun _ _ _ h => h) (yieldsIf_move _ rfl rfl rfl) hHeld ?_
          simp only [ly1, ly2, ly3, Act.put, ly5, ly6, ly7]
          refine wpAnyH_take (i := 2) (v := .int .i64 (k : Int)) rfl (by kernel_rfl) (by kernel_rfl) (by kernel_rfl) (fun _ _ _ h => h) (yieldsIf_move _ rfl rfl rfl) hHeld ?_
          simp only [ly1, ly2, ly3, Act.put, ly5, ly6, ly7]
          refine wpAnyH_take (i := 3) (v := .int .i64 ((i : Int) - (k : Int))) rfl (by kernel_rfl) (by kernel_rfl) (by kernel_rfl) (fun _ _ _ h => h) (.inl ⟨by kernel_rfl, fun w _ => by go_simp⟩) hHeld ?_
          simp only [ly1, ly2, ly3, Act.put, ly5, ly6, ly7]
          refine wpAnyH_take (i := 4) (v := .int .i64 (n : Int)) rfl (by kernel_rfl) (by kernel_rfl) (by kernel_rfl) (fun _ _ _ h => h) (yieldsIf_move _ rfl rfl rfl) hHeld ?_
          simp only [ly1, ly2, ly3, Act.put, ly5, ly6, ly7]
          refine wpAnyH_take (i := 5) (v := .int .i64 (k : Int)) rfl (by kernel_rfl) (by kernel_rfl) (by kernel_rfl) (fun _ _ _ h => h) (yieldsIf_move _ rfl rfl rfl) hHeld ?_
          simp only [ly1, ly2, ly3, Act.put, ly5, ly6, ly7]
          refine wpAnyH_take (i := 6) (v := .int .i64 ((n : Int) - (k : Int))) rfl (by kernel_rfl) (by kernel_rfl) (by kernel_rfl) (fun _ _ _ h => h) (.inl ⟨by kernel_rfl, fun w _ => by go_simp⟩) hHeld ?_
          simp only [ly1, ly2, ly3, Act.put, ly5, ly6, ly7]
          refine wpAnyH_take (i := 7) (v := .slice (some p) q c) rfl (by kernel_rfl) (by kernel_rfl) (by kernel_rfl) (fun _ _ _ h => h) (yieldsIf_move _ rfl rfl rfl) hHeld ?_
          simp only [ly1, ly2, ly3, Act.put, ly5, ly6, ly7]
          refine wpAnyH_take (i := 8) (v := .slice (some p) q c) rfl (by kernel_rfl) (by kernel_rfl) (by kernel_rfl) (fun _ _ _ h => h) (yieldsIf_move _ rfl rfl rfl) hHeld ?_
          simp only [ly1, ly2, ly3, Act.put, ly5, ly6, ly7]
          refine wpAnyH_take (i := 9) (v := .int .i64 (q : Int)) rfl (by kernel_rfl) (by kernel_rfl) (by kernel_rfl) (fun _ _ _ h => h) (.inl ⟨by kernel_rfl, fun w _ => by go_simp⟩) hHeld ?_
          simp only [ly1, ly2, ly3, Act.put, ly5, ly6, ly7]
          refine wpAnyH_take (i := 10) (v := .int .i64 ((q : Int) - 1)) rfl (by kernel_rfl) (by kernel_rfl) (by kernel_rfl) (fun _ _ _ h => h) (.inl ⟨by kernel_rfl, fun w _ => by go_simp⟩) hHeld ?_
          simp only [ly1, ly2, ly3, Act.put, ly5, ly6, ly7]
          refine wpAnyH_take (i := 11) (v := .slice (some p) (q - 1) c) rfl (by kernel_rfl) (by kernel_rfl) (by kernel_rfl) (fun _ _ _ h => h) (.inl ⟨by kernel_rfl, fun w _ => by go_simp⟩) hHeld ?_
          simp only [ly1, ly2, ly3, Act.put, ly5, ly6, ly7]
          have hb_0 := hid (Below.refl Wb.heap.size Wb)
          refine wpAnyH_ready (rs := [12, 16]) (by kernel_rfl) (by simp) (AllReadyH.cons rfl (fun K hK => ?_) (AllReadyH.cons rfl (fun K hK => ?_) AllReadyH.nil))
          · skip
            have hK' := hid hK
            clear hK
            rw [if_pos (by kernel_rfl)]
            simp only [ly1, ly2, ly3]
            go_simp
            refine (hrec.out _ (below_up (hb_0.out) hB4.out)).mono ?_
            rintro e W_call_1 ⟨rfl, hbc⟩
            have hb_1 := hid (hb_0.out.trans (hbc.mono hb_0.out.size))
            clear hbc hb_0
            refine hK'.out _ _ (by exact (hH4.out.below hb_1.out hH4.out.lt)) (fun hHeld => ?_)
            clear hK' K
            refine wpAnyH_take (i := 13) (v := .tuple #[.agg cr.toArray, .bool ok]) rfl (by kernel_rfl) (by kernel_rfl) (by kernel_rfl) (fun _ _ _ h => h) (yieldsIf_move _ rfl rfl rfl) hHeld ?_
            simp only [ly1, ly2, ly3, Act.put, ly5, ly6, ly7]
            refine wpAnyH_take (i := 14) (v := .agg cr.toArray) rfl (by kernel_rfl) (by kernel_rfl) (by kernel_rfl) (fun _ _ _ h => h) (.inl ⟨by kernel_rfl, fun w _ => by go_simp⟩) hHeld ?_
            simp only [ly1, ly2, ly3, Act.put, ly5, ly6, ly7]
            refine wpAnyH_take (i := 15) (v := .bool ok) rfl (by kernel_rfl) (by kernel_rfl) (by kernel_rfl) (fun _ _ _ h => h) (.inl ⟨by kernel_rfl, fun w _ => by go_simp⟩) hHeld ?_
            simp only [ly1, ly2, ly3, Act.put, ly5, ly6, ly7]
            refine wpAnyH_ready (rs := [16]) (by kernel_rfl) (by simp) (AllReadyH.cons rfl (fun K hK => ?_) AllReadyH.nil)
            have hK' := hid hK
            clear hK
            rw [if_pos (by kernel_rfl)]
            simp only [ly1, ly2, ly3]
            obtain ⟨g12, hqg12⟩ : ∃ g, g = W_call_1.heap.size := ⟨_, rfl⟩
            refine wp_run (.pointer (some ⟨g12, 0, none⟩)) (W_call_1.alloc (.cells z32 28)) (by rw [hqg12]; kernel_rfl) ?_
            have hb_2 := hid (hb_1.out.alloc hb_1.out.size (.cells z32 28))
            have hN2_g12 := hid (show Holds (W_call_1.alloc (.cells z32 28)) g12 28 (z32).toList from by rw [hqg12]; exact Holds.new W_call_1 _ _)
            have hgeg12 : Wb.heap.size ≤ g12 := by rw [hqg12]; exact hb_1.out.size
            generalize hWg12 : W_call_1.alloc (.cells z32 28) = W_g12_2 at *
            clear hWg12 hqg12 hb_1
            refine hK'.out _ _ (by exact (hH4.out.below hb_2.out hH4.out.lt)) (fun hHeld => ?_)
            clear hK' K
            refine wpAnyH_ready (rs := [17]) (by kernel_rfl) (by simp) (AllReadyH.cons rfl (fun K hK => ?_) AllReadyH.nil)
            have hK' := hid hK
            clear hK
            rw [if_pos (by kernel_rfl)]
            simp only [ly1, ly2, ly3]
            refine wp_store_mid _ _ _ rfl g12 0 cr.toArray rfl rfl (by exact hCr.out.there' hN2_g12.out rfl) (by exact hCr.out.size) (by exact hCr.out.one) ?_
            generalize hW5 : World.setCells _ _ _ _ = W5
            obtain ⟨hG5, hb5⟩ := hCr.out.set hN2_g12.out rfl hW5 hb_2.out (by omega)
            have hG5' := hid hG5
            have hT5 := hid (hT4.out.below hb5 hT4.out.lt)
            have hH5 := hid (hH4.out.below hb5 hH4.out.lt)
            have hR5 := hid (hR4.out.below hb5 hR4.out.lt)
            have hB5 := hid (below_up hb5 hB4.out)
            clear hW5 hG5 hb5 hb_2 hN2_g12
            refine hK'.out _ _ (by exact hH5.out) (fun hHeld => ?_)
            clear hK' K
            refine wpAnyH_take (i := 18) (v := .bool ok) rfl (by kernel_rfl) (by kernel_rfl) (by kernel_rfl) (fun _ _ _ h => h) (yieldsIf_assign _ rfl rfl rfl) hHeld ?_
            simp only [ly1, ly2, ly3, Act.put, ly5, ly6, ly7]
            refine wpAnyH_done (by kernel_rfl) ?_ _
            clear hHeld
            go_wp2_with (first
              | ((with_reducible refine at_slot (some 69) ?_); refine wpList_load_mid rfl 28 (.tmp 11) rfl (W2.heap.size) 0 rfl ct _ (h_all hT5.out) Try.underlying28 rfl (by exact hCt.out.size') ?_)
              | ((with_reducible refine at_slot (some 70) ?_); refine wpList_load_mid rfl 28 (.tmp 14) rfl (g12) 0 rfl cr _ (h_all hG5'.out) Try.underlying28 rfl (by exact hCr.out.size') ?_)
              | fail)
            refine (hro.out _).mono ?_
            rintro e W6 ⟨rfl, hb6⟩
            have hR6 := hid (hR5.out.below hb6 hR5.out.lt)
            have hB6 := hid (below_up hb6 hB5.out)
            clear hb6
            rename_i hK1
            refine hK1 _ _ ?_
            clear hK1
            go_wp2_with (first
              | ((with_reducible refine at_slot none ?_); refine wpList_store_mid rfl 28 (.tmp 8) (.tmp 71) rfl (w.heap.size + 1) 0 cn.toArray rfl rfl (by exact hCn.out.there' hR6.out rfl) (by exact hCn.out.size) (by exact hCn.out.one) ?_; generalize hWW7 : World.setCells _ _ _ _ = W7; obtain ⟨hHW7, hBW7⟩ := hCn.out.set hR6.out rfl hWW7 hB6.out (by omega))
              | fail)
            exact bodyPost_ret (results_ct rfl _ _ (w.heap.size + 1) 28 _ (0, 0) _ rfl hHW7 (.bool ok) rfl Try.underlying28 rfl (by exact hCn.out.size)) rfl ⟨rfl, hBW7⟩

          · skip
            have hK' := hid hK
            clear hK
            rw [if_pos (by kernel_rfl)]
            simp only [ly1, ly2, ly3]
            obtain ⟨g12, hqg12⟩ : ∃ g, g = Wb.heap.size := ⟨_, rfl⟩
            refine wp_run (.pointer (some ⟨g12, 0, none⟩)) (Wb.alloc (.cells z32 28)) (by rw [hqg12]; kernel_rfl) ?_
            have hb_1 := hid (hb_0.out.alloc hb_0.out.size (.cells z32 28))
            have hN1_g12 := hid (show Holds (Wb.alloc (.cells z32 28)) g12 28 (z32).toList from by rw [hqg12]; exact Holds.new Wb _ _)
            have hgeg12 : Wb.heap.size ≤ g12 := by rw [hqg12]; exact hb_0.out.size
            generalize hWg12 : Wb.alloc (.cells z32 28) = W_g12_1 at *
            clear hWg12 hqg12 hb_0
            refine hK'.out _ _ (by exact (hH4.out.below hb_1.out hH4.out.lt)) (fun hHeld => ?_)
            clear hK' K
            refine wpAnyH_ready (rs := [12]) (by kernel_rfl) (by simp) (AllReadyH.cons rfl (fun K hK => ?_) AllReadyH.nil)
            have hK' := hid hK
            clear hK
            rw [if_pos (by kernel_rfl)]
            simp only [ly1, ly2, ly3]
            go_simp
            refine (hrec.out _ (below_up (hb_1.out) hB4.out)).mono ?_
            rintro e W_call_2 ⟨rfl, hbc⟩
            have hb_2 := hid (hb_1.out.trans (hbc.mono hb_1.out.size))
            have hN2_g12 := hid (hN1_g12.out.below hbc hN1_g12.out.lt)
            clear hbc hb_1 hN1_g12
            refine hK'.out _ _ (by exact (hH4.out.below hb_2.out hH4.out.lt)) (fun hHeld => ?_)
            clear hK' K
            refine wpAnyH_take (i := 13) (v := .tuple #[.agg cr.toArray, .bool ok]) rfl (by kernel_rfl) (by kernel_rfl) (by kernel_rfl) (fun _ _ _ h => h) (yieldsIf_move _ rfl rfl rfl) hHeld ?_
            simp only [ly1, ly2, ly3, Act.put, ly5, ly6, ly7]
            refine wpAnyH_take (i := 14) (v := .agg cr.toArray) rfl (by kernel_rfl) (by kernel_rfl) (by kernel_rfl) (fun _ _ _ h => h) (.inl ⟨by kernel_rfl, fun w _ => by go_simp⟩) hHeld ?_
            simp only [ly1, ly2, ly3, Act.put, ly5, ly6, ly7]
            refine wpAnyH_take (i := 15) (v := .bool ok) rfl (by kernel_rfl) (by kernel_rfl) (by kernel_rfl) (fun _ _ _ h => h) (.inl ⟨by kernel_rfl, fun w _ => by go_simp⟩) hHeld ?_
            simp only [ly1, ly2, ly3, Act.put, ly5, ly6, ly7]
            refine wpAnyH_ready (rs := [17]) (by kernel_rfl) (by simp) (AllReadyH.cons rfl (fun K hK => ?_) AllReadyH.nil)
            have hK' := hid hK
            clear hK
            rw [if_pos (by kernel_rfl)]
            simp only [ly1, ly2, ly3]
            refine wp_store_mid _ _ _ rfl g12 0 cr.toArray rfl rfl (by exact hCr.out.there' hN2_g12.out rfl) (by exact hCr.out.size) (by exact hCr.out.one) ?_
            generalize hW5 : World.setCells _ _ _ _ = W5
            obtain ⟨hG5, hb5⟩ := hCr.out.set hN2_g12.out rfl hW5 hb_2.out (by omega)
            have hG5' := hid hG5
            have hT5 := hid (hT4.out.below hb5 hT4.out.lt)
            have hH5 := hid (hH4.out.below hb5 hH4.out.lt)
            have hR5 := hid (hR4.out.below hb5 hR4.out.lt)
            have hB5 := hid (below_up hb5 hB4.out)
            clear hW5 hG5 hb5 hb_2 hN2_g12
            refine hK'.out _ _ (by exact hH5.out) (fun hHeld => ?_)
            clear hK' K
            refine wpAnyH_take (i := 18) (v := .bool ok) rfl (by kernel_rfl) (by kernel_rfl) (by kernel_rfl) (fun _ _ _ h => h) (yieldsIf_assign _ rfl rfl rfl) hHeld ?_
            simp only [ly1, ly2, ly3, Act.put, ly5, ly6, ly7]
            refine wpAnyH_done (by kernel_rfl) ?_ _
            clear hHeld
            go_wp2_with (first
              | ((with_reducible refine at_slot (some 69) ?_); refine wpList_load_mid rfl 28 (.tmp 11) rfl (W2.heap.size) 0 rfl ct _ (h_all hT5.out) Try.underlying28 rfl (by exact hCt.out.size') ?_)
              | ((with_reducible refine at_slot (some 70) ?_); refine wpList_load_mid rfl 28 (.tmp 14) rfl (g12) 0 rfl cr _ (h_all hG5'.out) Try.underlying28 rfl (by exact hCr.out.size') ?_)
              | fail)
            refine (hro.out _).mono ?_
            rintro e W6 ⟨rfl, hb6⟩
            have hR6 := hid (hR5.out.below hb6 hR5.out.lt)
            have hB6 := hid (below_up hb6 hB5.out)
            clear hb6
            rename_i hK1
            refine hK1 _ _ ?_
            clear hK1
            go_wp2_with (first
              | ((with_reducible refine at_slot none ?_); refine wpList_store_mid rfl 28 (.tmp 8) (.tmp 71) rfl (w.heap.size + 1) 0 cn.toArray rfl rfl (by exact hCn.out.there' hR6.out rfl) (by exact hCn.out.size) (by exact hCn.out.one) ?_; generalize hWW7 : World.setCells _ _ _ _ = W7; obtain ⟨hHW7, hBW7⟩ := hCn.out.set hR6.out rfl hWW7 hB6.out (by omega))
              | fail)
            exact bodyPost_ret (results_ct rfl _ _ (w.heap.size + 1) 28 _ (0, 0) _ rfl hHW7 (.bool ok) rfl Try.underlying28 rfl (by exact hCn.out.size)) rfl ⟨rfl, hBW7⟩

end Go.Proofs.Ytenfhmpjhbpkpaa
namespace Go.Proofs.Ytenfhmpjhbpkpaa
open Go.RowKit
open Go.Lib (strCells strCells_length strCells_oneCell)
attribute [local irreducible] Sha.compress Sha.blocks Sha.sha Sha.pad

theorem results_cct {P : Program} {fn : Func} {p p' q : Tmp} {ty : TypeId} (h : fn.results = #[.cell p ty, .cell p' ty, .tmp q]) (tmps : Array Value) (w : World) (g g' : Nat) (t : TypeId) (cs cs' : Array Value) (d : TypeDesc)
    (hp : tmps.getD p undef = .pointer (some ⟨g, 0, none⟩)) (hp2 : tmps.getD p' undef = .pointer (some ⟨g', 0, none⟩)) (hg : w.heap[g]? = some (.cells cs t (0, 0))) (hg2 : w.heap[g']? = some (.cells cs' t (0, 0))) (v : Value) (hq : tmps.getD q undef = v)
    (hu : P.underlying ty = some d) (hd : (match d with | .struct _ | .array _ _ => true | _ => false) = true) (hi : (P.info? ty).map (·.size) = some cs.size) (hi2 : (P.info? ty).map (·.size) = some cs'.size) :
    (results fn tmps).run P w = .ok (.tuple #[.agg cs, .agg cs', v]) w := by
  have hp' : tmps[p]?.getD undef = .pointer (some ⟨g, 0, none⟩) := by simpa using hp
  have hp2' : tmps[p']?.getD undef = .pointer (some ⟨g', 0, none⟩) := by simpa using hp2
  have hq' : tmps[q]?.getD undef = v := by simpa using hq
  simp [results, h, hp', hp2', hq', asAddr, run_loadVar_row w g t ty cs (0, 0) d hg hu hd hi, run_loadVar_row w g' t ty cs' (0, 0) d hg2 hu hd hi2]

theorem rise_len : ∀ (f : Nat) (h : List UInt8) (m n : Nat) (w0 : Bool) (ps : List (List UInt8)), h.length = 32 → (∀ x ∈ ps, x.length = 32) → (Mth.rise nodeH f h m n w0 ps).1.length = 32 ∧ (Mth.rise nodeH f h m n w0 ps).2.1.length = 32 := by
  have hend : ∀ (h : List UInt8) (w0 : Bool) (ps : List (List UInt8)), h.length = 32 → (∀ x ∈ ps, x.length = 32) → (Mth.riseEnd h w0 ps).1.length = 32 ∧ (Mth.riseEnd h w0 ps).2.1.length = 32 := by
    intro h w0 ps hh hp
    have hd : (ps.headD h).length = 32 := by
      cases ps with
      | nil => exact hh
      | cons x xs => exact hp x (List.mem_cons_self ..)
    unfold Mth.riseEnd
    split
    · exact ⟨hh, hh⟩
    · split
      · exact ⟨hd, hd⟩
      · exact ⟨hh, hh⟩
  intro f
  induction f with
  | zero => exact fun h m n w0 ps hh hp => hend h w0 ps hh hp
  | succ f ih =>
    intro h m n w0 ps hh hp
    have hp' : ∀ x ∈ ps.dropLast, x.length = 32 := fun x hx => hp x (List.dropLast_subset ps hx)
    unfold Mth.rise
    split
    · exact hend h w0 ps hh hp
    · split
      · exact ⟨hh, hh⟩
      · split
        · exact ⟨(ih _ _ _ _ _ hh hp').1, nodeH_len _ _⟩
        · exact ⟨nodeH_len _ _, nodeH_len _ _⟩

set_option maxRecDepth 100000 in
set_option maxHeartbeats 2000000 in
theorem rRise_whole (h : List UInt8) (n : Nat) (A : Option Addr) (q c : Nat) (w : World) (hh : h.length = 32) : Calls Try.prog 57 #[(.int .i64 (n : Int)), (.int .i64 (n : Int)), hv h, .bool true, .slice A q c] w fun e w' => e = .returned (.tuple #[hv h, hv h, .bool (decide (q = 0))]) ∧ Below w.heap.size w w' := by
  have hC := hid (hash_cells h hh)
  have hq : ((q : Int) == 0) = decide (q = 0) := by
    rw [Bool.eq_iff_iff]
    simp
  have hq' := hid hq
  clear hq
  unfold hv
  generalize byteCells h = ch at *
  obtain ⟨W0, hW0⟩ : ∃ W0, ((w.alloc (.cells ch.toArray 28)).alloc (.cells z32 28)).alloc (.cells z32 28) = W0 := ⟨_, rfl⟩
  have e1 : (w.alloc (.cells ch.toArray 28)).heap.size = w.heap.size + 1 := by simp
  have e2 : ((w.alloc (.cells ch.toArray 28)).alloc (.cells z32 28)).heap.size = w.heap.size + 2 := by simp
  have hH : Holds W0 w.heap.size 28 ch := by rw [← hW0]; exact ((Holds.new w 28 ch.toArray).alloc _).alloc _
  have hR : Holds W0 (w.heap.size + 1) 28 z32.toList := by rw [← hW0, ← e1]; exact (Holds.new _ 28 z32).alloc _
  have hT : Holds W0 (w.heap.size + 2) 28 z32.toList := by rw [← hW0, ← e2]; exact Holds.new _ 28 z32
  have hbl : Below w.heap.size w W0 := by rw [← hW0]; exact (((Below.refl _ _).alloc (Nat.le_refl _) _).alloc (by simp) _).alloc (by simp; omega) _
  have hW0' := hid hW0
  have hH0 := hid hH
  have hR0 := hid hR
  have hS0 := hid hT
  have hb0 := hid hbl
  have e1' := hid e1
  have e2' := hid e2
  clear hW0 hH hR hT hbl e1 e2
  go_enter Try.func57, Try.ntmps57
  go_wp2_with (first
    | ((with_reducible refine at_slot (some 10) ?_); refine wpList_run rfl (.pointer (some ⟨(w.alloc (.cells ch.toArray 28)).heap.size, 0, none⟩)) ((w.alloc (.cells ch.toArray 28)).alloc (.cells z32 28)) (by kernel_rfl) ?_)
    | ((with_reducible refine at_slot (some 11) ?_); refine wpList_run rfl (.pointer (some ⟨((w.alloc (.cells ch.toArray 28)).alloc (.cells z32 28)).heap.size, 0, none⟩)) (((w.alloc (.cells ch.toArray 28)).alloc (.cells z32 28)).alloc (.cells z32 28)) (by kernel_rfl) ?_; rw [hW0'.out, e1'.out, e2'.out])
    | fail)
  have hdr : Below W0.heap.size W0 W0.drew := (Below.refl _ _).drew
  have hH1 := hid (hH0.out.below hdr hH0.out.lt)
  have hR1 := hid (hR0.out.below hdr hR0.out.lt)
  have hS1 := hid (hS0.out.below hdr hS0.out.lt)
  have hb1 := hid (below_up hdr hb0.out)
  clear hdr hH0 hR0 hS0 hb0
  refine wp_region_held_drew (S := fun W => Holds W w.heap.size 28 ch) (by kernel_rfl) (by exact hH1.out) (fun hHeld => ?_)
  generalize W0.drew = Wb at *
  refine wpAnyH_take (i := 0) (v := .agg ch.toArray) rfl (by kernel_rfl) (by kernel_rfl) (by kernel_rfl) (fun _ _ _ h => h) (yieldsIf_load_mid (by kernel_rfl) _ _ rfl _ _ rfl _ _ (fun W h => h_all h) Try.underlying28 rfl (by exact hC.out.size')) hHeld ?_
  simp only [ly1, ly2, ly3, Act.put, ly5, ly6, ly7]
  refine wpAnyH_take (i := 1) (v := .agg ch.toArray) rfl (by kernel_rfl) (by kernel_rfl) (by kernel_rfl) (fun _ _ _ h => h) (yieldsIf_load_mid (by kernel_rfl) _ _ rfl _ _ rfl _ _ (fun W h => h_all h) Try.underlying28 rfl (by exact hC.out.size')) hHeld ?_
  simp only [ly1, ly2, ly3, Act.put, ly5, ly6, ly7]
  refine wpAnyH_take (i := 2) (v := .slice A q c) rfl (by kernel_rfl) (by kernel_rfl) (by kernel_rfl) (fun _ _ _ h => h) (yieldsIf_move _ rfl rfl rfl) hHeld ?_
  simp only [ly1, ly2, ly3, Act.put, ly5, ly6, ly7]
  refine wpAnyH_take (i := 3) (v := .int .i64 (q : Int)) rfl (by kernel_rfl) (by kernel_rfl) (by kernel_rfl) (fun _ _ _ h => h) (.inl ⟨by kernel_rfl, fun w _ => by go_simp⟩) hHeld ?_
  simp only [ly1, ly2, ly3, Act.put, ly5, ly6, ly7]
  refine wpAnyH_take (i := 4) (v := .bool ((q : Int) == 0)) rfl (by kernel_rfl) (by kernel_rfl) (by kernel_rfl) (fun _ _ _ h => h) (.inl ⟨by kernel_rfl, fun w _ => by go_simp⟩) hHeld ?_
  simp only [ly1, ly2, ly3, Act.put, ly5, ly6, ly7]
  refine wpAnyH_ready (rs := [5]) (by kernel_rfl) (by simp) (AllReadyH.cons rfl (fun K hK => ?_) AllReadyH.nil)
  have hK' := hid hK
  clear hK
  rw [if_pos (by kernel_rfl)]
  simp only [ly1, ly2, ly3]
  refine wp_store_mid _ _ _ rfl (w.heap.size + 1) 0 ch.toArray rfl rfl (by exact hC.out.there' hR1.out rfl) (by exact hC.out.size) (by exact hC.out.one) ?_
  generalize hX1 : World.setCells _ _ _ _ = X1
  obtain ⟨hRx, hbx⟩ := hC.out.set hR1.out rfl hX1 hb1.out (by omega)
  have hRx1 := hid hRx
  have hbx1 := hid hbx
  have hSx1 := hid (holds_far hS1.out (by omega) hX1)
  have hHx1 := hid (holds_far hH1.out (by omega) hX1)
  clear hX1 hRx hbx
  refine hK'.out _ _ (by exact hHx1.out) (fun hHeld => ?_)
  clear hK' K
  refine wpAnyH_ready (rs := [6]) (by kernel_rfl) (by simp) (AllReadyH.cons rfl (fun K hK => ?_) AllReadyH.nil)
  have hK' := hid hK
  clear hK
  rw [if_pos (by kernel_rfl)]
  simp only [ly1, ly2, ly3]
  refine wp_store_mid _ _ _ rfl (w.heap.size + 2) 0 ch.toArray rfl rfl (by exact hC.out.there' hSx1.out rfl) (by exact hC.out.size) (by exact hC.out.one) ?_
  generalize hX2 : World.setCells _ _ _ _ = X2
  obtain ⟨hSx, hbx⟩ := hC.out.set hSx1.out rfl hX2 hbx1.out (by omega)
  have hSx2 := hid hSx
  have hbx2 := hid hbx
  have hRx2 := hid (holds_far hRx1.out (by omega) hX2)
  have hHx2 := hid (holds_far hHx1.out (by omega) hX2)
  clear hX2 hSx hbx
  refine hK'.out _ _ (by exact hHx2.out) (fun hHeld => ?_)
  clear hK' K
  refine wpAnyH_take (i := 7) (v := .bool ((q : Int) == 0)) rfl (by kernel_rfl) (by kernel_rfl) (by kernel_rfl) (fun _ _ _ h => h) (yieldsIf_assign _ rfl rfl rfl) hHeld ?_
  simp only [ly1, ly2, ly3, Act.put, ly5, ly6, ly7]
  refine wpAnyH_done (by kernel_rfl) ?_ _
  clear hHeld
  go_wp2_with fail
  exact bodyPost_ret (results_cct rfl _ _ (w.heap.size + 1) (w.heap.size + 2) 28 _ _ _ rfl rfl hRx2.out hSx2.out (.bool (decide (q = 0))) (by rw [← hq'.out]; rfl) Try.underlying28 rfl (by exact hC.out.size) (by exact hC.out.size)) rfl ⟨rfl, hbx2.out⟩

set_option maxRecDepth 100000 in
set_option maxHeartbeats 2000000 in
theorem rRise_not (h : List UInt8) (n : Nat) (A : Option Addr) (q c : Nat) (w : World) (hh : h.length = 32) (hq : q ≠ 1) : Calls Try.prog 57 #[(.int .i64 (n : Int)), (.int .i64 (n : Int)), hv h, .bool false, .slice A q c] w fun e w' => e = .returned (.tuple #[hv h, hv h, .bool false]) ∧ Below w.heap.size w w' := by
  have hC := hid (hash_cells h hh)
  have hq1 : ¬ (q : Int) = 1 := by omega
  clear hq
  unfold hv
  generalize byteCells h = ch at *
  obtain ⟨W0, hW0⟩ : ∃ W0, ((w.alloc (.cells ch.toArray 28)).alloc (.cells z32 28)).alloc (.cells z32 28) = W0 := ⟨_, rfl⟩
  have e1 : (w.alloc (.cells ch.toArray 28)).heap.size = w.heap.size + 1 := by simp
  have e2 : ((w.alloc (.cells ch.toArray 28)).alloc (.cells z32 28)).heap.size = w.heap.size + 2 := by simp
  have hH : Holds W0 w.heap.size 28 ch := by rw [← hW0]; exact ((Holds.new w 28 ch.toArray).alloc _).alloc _
  have hR : Holds W0 (w.heap.size + 1) 28 z32.toList := by rw [← hW0, ← e1]; exact (Holds.new _ 28 z32).alloc _
  have hT : Holds W0 (w.heap.size + 2) 28 z32.toList := by rw [← hW0, ← e2]; exact Holds.new _ 28 z32
  have hbl : Below w.heap.size w W0 := by rw [← hW0]; exact (((Below.refl _ _).alloc (Nat.le_refl _) _).alloc (by simp) _).alloc (by simp; omega) _
  have hW0' := hid hW0
  have hH0 := hid hH
  have hR0 := hid hR
  have hS0 := hid hT
  have hb0 := hid hbl
  have e1' := hid e1
  have e2' := hid e2
  clear hW0 hH hR hT hbl e1 e2
  go_enter Try.func57, Try.ntmps57
  go_wp2_with (first
    | ((with_reducible refine at_slot (some 10) ?_); refine wpList_run rfl (.pointer (some ⟨(w.alloc (.cells ch.toArray 28)).heap.size, 0, none⟩)) ((w.alloc (.cells ch.toArray 28)).alloc (.cells z32 28)) (by kernel_rfl) ?_)
    | ((with_reducible refine at_slot (some 11) ?_); refine wpList_run rfl (.pointer (some ⟨((w.alloc (.cells ch.toArray 28)).alloc (.cells z32 28)).heap.size, 0, none⟩)) (((w.alloc (.cells ch.toArray 28)).alloc (.cells z32 28)).alloc (.cells z32 28)) (by kernel_rfl) ?_; rw [hW0'.out, e1'.out, e2'.out])
    | fail)
  have hdr : Below W0.heap.size W0 W0.drew := (Below.refl _ _).drew
  have hH1 := hid (hH0.out.below hdr hH0.out.lt)
  have hR1 := hid (hR0.out.below hdr hR0.out.lt)
  have hS1 := hid (hS0.out.below hdr hS0.out.lt)
  have hb1 := hid (below_up hdr hb0.out)
  clear hdr hH0 hR0 hS0 hb0
  refine wp_region_held_drew (S := fun W => Holds W w.heap.size 28 ch) (by kernel_rfl) (by exact hH1.out) (fun hHeld => ?_)
  generalize W0.drew = Wb at *
  refine wpAnyH_take (i := 0) (v := .agg ch.toArray) rfl (by kernel_rfl) (by kernel_rfl) (by kernel_rfl) (fun _ _ _ h => h) (yieldsIf_load_mid (by kernel_rfl) _ _ rfl _ _ rfl _ _ (fun W h => h_all h) Try.underlying28 rfl (by exact hC.out.size')) hHeld ?_
  simp only [ly1, ly2, ly3, Act.put, ly5, ly6, ly7]
  refine wpAnyH_take (i := 1) (v := .agg ch.toArray) rfl (by kernel_rfl) (by kernel_rfl) (by kernel_rfl) (fun _ _ _ h => h) (yieldsIf_load_mid (by kernel_rfl) _ _ rfl _ _ rfl _ _ (fun W h => h_all h) Try.underlying28 rfl (by exact hC.out.size')) hHeld ?_
  simp only [ly1, ly2, ly3, Act.put, ly5, ly6, ly7]
  refine wpAnyH_ready (rs := [2]) (by kernel_rfl) (by simp) (AllReadyH.cons rfl (fun K hK => ?_) AllReadyH.nil)
  have hK' := hid hK
  clear hK
  rw [if_pos (by kernel_rfl)]
  simp only [ly1, ly2, ly3]
  refine wp_store_mid _ _ _ rfl (w.heap.size + 1) 0 ch.toArray rfl rfl (by exact hC.out.there' hR1.out rfl) (by exact hC.out.size) (by exact hC.out.one) ?_
  generalize hX1 : World.setCells _ _ _ _ = X1
  obtain ⟨hRx, hbx⟩ := hC.out.set hR1.out rfl hX1 hb1.out (by omega)
  have hRx1 := hid hRx
  have hbx1 := hid hbx
  have hSx1 := hid (holds_far hS1.out (by omega) hX1)
  have hHx1 := hid (holds_far hH1.out (by omega) hX1)
  clear hX1 hRx hbx
  refine hK'.out _ _ (by exact hHx1.out) (fun hHeld => ?_)
  clear hK' K
  refine wpAnyH_ready (rs := [3]) (by kernel_rfl) (by simp) (AllReadyH.cons rfl (fun K hK => ?_) AllReadyH.nil)
  have hK' := hid hK
  clear hK
  rw [if_pos (by kernel_rfl)]
  simp only [ly1, ly2, ly3]
  refine wp_store_mid _ _ _ rfl (w.heap.size + 2) 0 ch.toArray rfl rfl (by exact hC.out.there' hSx1.out rfl) (by exact hC.out.size) (by exact hC.out.one) ?_
  generalize hX2 : World.setCells _ _ _ _ = X2
  obtain ⟨hSx, hbx⟩ := hC.out.set hSx1.out rfl hX2 hbx1.out (by omega)
  have hSx2 := hid hSx
  have hbx2 := hid hbx
  have hRx2 := hid (holds_far hRx1.out (by omega) hX2)
  have hHx2 := hid (holds_far hHx1.out (by omega) hX2)
  clear hX2 hSx hbx
  refine hK'.out _ _ (by exact hHx2.out) (fun hHeld => ?_)
  clear hK' K
  refine wpAnyH_take (i := 4) (v := .bool false) rfl (by kernel_rfl) (by kernel_rfl) (by kernel_rfl) (fun _ _ _ h => h) (yieldsIf_assign _ rfl rfl rfl) hHeld ?_
  simp only [ly1, ly2, ly3, Act.put, ly5, ly6, ly7]
  refine wpAnyH_done (by kernel_rfl) ?_ _
  clear hHeld
  go_wp2_with fail
  exact bodyPost_ret (results_cct rfl _ _ (w.heap.size + 1) (w.heap.size + 2) 28 _ _ _ rfl rfl hRx2.out hSx2.out (.bool false) rfl Try.underlying28 rfl (by exact hC.out.size) (by exact hC.out.size)) rfl ⟨rfl, hbx2.out⟩

set_option maxRecDepth 100000 in
set_option maxHeartbeats 2000000 in
theorem rRise_none (h : List UInt8) (m n : Nat) (w0 : Bool) (A : Option Addr) (c : Nat) (w : World) (hh : h.length = 32) (hm : m ≠ n) : Calls Try.prog 57 #[(.int .i64 (m : Int)), (.int .i64 (n : Int)), hv h, .bool w0, .slice A 0 c] w fun e w' => e = .returned (.tuple #[hv h, hv h, .bool false]) ∧ Below w.heap.size w w' := by
  have hC := hid (hash_cells h hh)
  have hm1 : ¬ (m : Int) = (n : Int) := by omega
  clear hm
  unfold hv
  generalize byteCells h = ch at *
  obtain ⟨W0, hW0⟩ : ∃ W0, ((w.alloc (.cells ch.toArray 28)).alloc (.cells z32 28)).alloc (.cells z32 28) = W0 := ⟨_, rfl⟩
  have e1 : (w.alloc (.cells ch.toArray 28)).heap.size = w.heap.size + 1 := by simp
  have e2 : ((w.alloc (.cells ch.toArray 28)).alloc (.cells z32 28)).heap.size = w.heap.size + 2 := by simp
  have hH : Holds W0 w.heap.size 28 ch := by rw [← hW0]; exact ((Holds.new w 28 ch.toArray).alloc _).alloc _
  have hR : Holds W0 (w.heap.size + 1) 28 z32.toList := by rw [← hW0, ← e1]; exact (Holds.new _ 28 z32).alloc _
  have hT : Holds W0 (w.heap.size + 2) 28 z32.toList := by rw [← hW0, ← e2]; exact Holds.new _ 28 z32
  have hbl : Below w.heap.size w W0 := by rw [← hW0]; exact (((Below.refl _ _).alloc (Nat.le_refl _) _).alloc (by simp) _).alloc (by simp; omega) _
  have hW0' := hid hW0
  have hH0 := hid hH
  have hR0 := hid hR
  have hS0 := hid hT
  have hb0 := hid hbl
  have e1' := hid e1
  have e2' := hid e2
  clear hW0 hH hR hT hbl e1 e2
  go_enter Try.func57, Try.ntmps57
  go_wp2_with (first
    | ((with_reducible refine at_slot (some 10) ?_); refine wpList_run rfl (.pointer (some ⟨(w.alloc (.cells ch.toArray 28)).heap.size, 0, none⟩)) ((w.alloc (.cells ch.toArray 28)).alloc (.cells z32 28)) (by kernel_rfl) ?_)
    | ((with_reducible refine at_slot (some 11) ?_); refine wpList_run rfl (.pointer (some ⟨((w.alloc (.cells ch.toArray 28)).alloc (.cells z32 28)).heap.size, 0, none⟩)) (((w.alloc (.cells ch.toArray 28)).alloc (.cells z32 28)).alloc (.cells z32 28)) (by kernel_rfl) ?_; rw [hW0'.out, e1'.out, e2'.out])
    | fail)
  have hdr : Below W0.heap.size W0 W0.drew := (Below.refl _ _).drew
  have hH1 := hid (hH0.out.below hdr hH0.out.lt)
  have hR1 := hid (hR0.out.below hdr hR0.out.lt)
  have hS1 := hid (hS0.out.below hdr hS0.out.lt)
  have hb1 := hid (below_up hdr hb0.out)
  clear hdr hH0 hR0 hS0 hb0
  refine wp_region_held_drew (S := fun W => Holds W w.heap.size 28 ch) (by kernel_rfl) (by exact hH1.out) (fun hHeld => ?_)
  generalize W0.drew = Wb at *
  refine wpAnyH_take (i := 0) (v := .agg ch.toArray) rfl (by kernel_rfl) (by kernel_rfl) (by kernel_rfl) (fun _ _ _ h => h) (yieldsIf_load_mid (by kernel_rfl) _ _ rfl _ _ rfl _ _ (fun W h => h_all h) Try.underlying28 rfl (by exact hC.out.size')) hHeld ?_
  simp only [ly1, ly2, ly3, Act.put, ly5, ly6, ly7]
  refine wpAnyH_take (i := 1) (v := .agg ch.toArray) rfl (by kernel_rfl) (by kernel_rfl) (by kernel_rfl) (fun _ _ _ h => h) (yieldsIf_load_mid (by kernel_rfl) _ _ rfl _ _ rfl _ _ (fun W h => h_all h) Try.underlying28 rfl (by exact hC.out.size')) hHeld ?_
  simp only [ly1, ly2, ly3, Act.put, ly5, ly6, ly7]
  refine wpAnyH_ready (rs := [2]) (by kernel_rfl) (by simp) (AllReadyH.cons rfl (fun K hK => ?_) AllReadyH.nil)
  have hK' := hid hK
  clear hK
  rw [if_pos (by kernel_rfl)]
  simp only [ly1, ly2, ly3]
  refine wp_store_mid _ _ _ rfl (w.heap.size + 1) 0 ch.toArray rfl rfl (by exact hC.out.there' hR1.out rfl) (by exact hC.out.size) (by exact hC.out.one) ?_
  generalize hX1 : World.setCells _ _ _ _ = X1
  obtain ⟨hRx, hbx⟩ := hC.out.set hR1.out rfl hX1 hb1.out (by omega)
  have hRx1 := hid hRx
  have hbx1 := hid hbx
  have hSx1 := hid (holds_far hS1.out (by omega) hX1)
  have hHx1 := hid (holds_far hH1.out (by omega) hX1)
  clear hX1 hRx hbx
  refine hK'.out _ _ (by exact hHx1.out) (fun hHeld => ?_)
  clear hK' K
  refine wpAnyH_ready (rs := [3]) (by kernel_rfl) (by simp) (AllReadyH.cons rfl (fun K hK => ?_) AllReadyH.nil)
  have hK' := hid hK
  clear hK
  rw [if_pos (by kernel_rfl)]
  simp only [ly1, ly2, ly3]
  refine wp_store_mid _ _ _ rfl (w.heap.size + 2) 0 ch.toArray rfl rfl (by exact hC.out.there' hSx1.out rfl) (by exact hC.out.size) (by exact hC.out.one) ?_
  generalize hX2 : World.setCells _ _ _ _ = X2
  obtain ⟨hSx, hbx⟩ := hC.out.set hSx1.out rfl hX2 hbx1.out (by omega)
  have hSx2 := hid hSx
  have hbx2 := hid hbx
  have hRx2 := hid (holds_far hRx1.out (by omega) hX2)
  have hHx2 := hid (holds_far hHx1.out (by omega) hX2)
  clear hX2 hSx hbx
  refine hK'.out _ _ (by exact hHx2.out) (fun hHeld => ?_)
  clear hK' K
  refine wpAnyH_take (i := 4) (v := .bool false) rfl (by kernel_rfl) (by kernel_rfl) (by kernel_rfl) (fun _ _ _ h => h) (yieldsIf_assign _ rfl rfl rfl) hHeld ?_
  simp only [ly1, ly2, ly3, Act.put, ly5, ly6, ly7]
  refine wpAnyH_done (by kernel_rfl) ?_ _
  clear hHeld
  go_wp2_with fail
  exact bodyPost_ret (results_cct rfl _ _ (w.heap.size + 1) (w.heap.size + 2) 28 _ _ _ rfl rfl hRx2.out hSx2.out (.bool false) rfl Try.underlying28 rfl (by exact hC.out.size) (by exact hC.out.size)) rfl ⟨rfl, hbx2.out⟩

set_option maxRecDepth 100000 in
set_option maxHeartbeats 2000000 in
theorem rRise_first (h x : List UInt8) (n : Nat) (p : Addr) (c B : Nat) (w : World) (hh : h.length = 32) (hx : x.length = 32) (hB : B ≤ w.heap.size) (hp : p.block < B) (hc1 : 1 ≤ c) (hc : CellsAt w p (byteCells x)) : Calls Try.prog 57 #[.int .i64 (n : Int), .int .i64 (n : Int), hv h, .bool false, .slice (some p) 1 c] w fun e w' => e = .returned (.tuple #[hv x, hv x, .bool true]) ∧ Below w.heap.size w w' := by
  have hC := hid (hash_cells x hx)
  have hp0 := add_zero' p
  unfold hv
  generalize byteCells h = ch at *
  generalize byteCells x = cx at *
  have hcx := hid (fun W (hW : Below w.heap.size w W) => hc.below (hW.mono hB) hp)
  clear hc
  obtain ⟨W0, hW0⟩ : ∃ W0, ((w.alloc (.cells ch.toArray 28)).alloc (.cells z32 28)).alloc (.cells z32 28) = W0 := ⟨_, rfl⟩
  have e1 : (w.alloc (.cells ch.toArray 28)).heap.size = w.heap.size + 1 := by simp
  have e2 : ((w.alloc (.cells ch.toArray 28)).alloc (.cells z32 28)).heap.size = w.heap.size + 2 := by simp
  have hH : Holds W0 w.heap.size 28 ch := by rw [← hW0]; exact ((Holds.new w 28 ch.toArray).alloc _).alloc _
  have hR : Holds W0 (w.heap.size + 1) 28 z32.toList := by rw [← hW0, ← e1]; exact (Holds.new _ 28 z32).alloc _
  have hT : Holds W0 (w.heap.size + 2) 28 z32.toList := by rw [← hW0, ← e2]; exact Holds.new _ 28 z32
  have hbl : Below w.heap.size w W0 := by rw [← hW0]; exact (((Below.refl _ _).alloc (Nat.le_refl _) _).alloc (by simp) _).alloc (by simp; omega) _
  have hW0' := hid hW0
  have hH0 := hid hH
  have hR0 := hid hR
  have hS0 := hid hT
  have hb0 := hid hbl
  have e1' := hid e1
  have e2' := hid e2
  clear hW0 hH hR hT hbl e1 e2
  go_enter Try.func57, Try.ntmps57
  go_wp2_with (first
    | ((with_reducible refine at_slot (some 10) ?_); refine wpList_run rfl (.pointer (some ⟨(w.alloc (.cells ch.toArray 28)).heap.size, 0, none⟩)) ((w.alloc (.cells ch.toArray 28)).alloc (.cells z32 28)) (by kernel_rfl) ?_)
    | ((with_reducible refine at_slot (some 11) ?_); refine wpList_run rfl (.pointer (some ⟨((w.alloc (.cells ch.toArray 28)).alloc (.cells z32 28)).heap.size, 0, none⟩)) (((w.alloc (.cells ch.toArray 28)).alloc (.cells z32 28)).alloc (.cells z32 28)) (by kernel_rfl) ?_; rw [hW0'.out, e1'.out, e2'.out])
    | fail)
  have hdr : Below W0.heap.size W0 W0.drew := (Below.refl _ _).drew
  have hH1 := hid (hH0.out.below hdr hH0.out.lt)
  have hR1 := hid (hR0.out.below hdr hR0.out.lt)
  have hS1 := hid (hS0.out.below hdr hS0.out.lt)
  have hb1 := hid (below_up hdr hb0.out)
  clear hdr hH0 hR0 hS0 hb0
  refine wp_region_held_drew (S := fun W => CellsAt W p cx) (by kernel_rfl) (by exact (hcx.out _ hb1.out)) (fun hHeld => ?_)
  generalize W0.drew = Wb at *
  refine wpAnyH_take (i := 0) (v := .slice (some p) 1 c) rfl (by kernel_rfl) (by kernel_rfl) (by kernel_rfl) (fun _ _ _ h => h) (yieldsIf_move _ rfl rfl rfl) hHeld ?_
  simp only [ly1, ly2, ly3, Act.put, ly5, ly6, ly7]
  refine wpAnyH_take (i := 1) (v := .pointer (some p)) rfl (by kernel_rfl) (by kernel_rfl) (by kernel_rfl) (fun _ _ _ h => h) (.inl ⟨by kernel_rfl, fun w _ => by go_simp⟩) hHeld ?_
  simp only [ly1, ly2, ly3, Act.put, ly5, ly6, ly7]
  refine wpAnyH_take (i := 2) (v := .agg cx.toArray) rfl (by kernel_rfl) (by kernel_rfl) (by kernel_rfl) (fun _ _ _ h => h) (yieldsIf_load_far (by kernel_rfl) _ _ rfl p rfl _ _ (fun W h => h) Try.underlying28 rfl (by exact hC.out.size')) hHeld ?_
  simp only [ly1, ly2, ly3, Act.put, ly5, ly6, ly7]
  refine wpAnyH_take (i := 3) (v := .slice (some p) 1 c) rfl (by kernel_rfl) (by kernel_rfl) (by kernel_rfl) (fun _ _ _ h => h) (yieldsIf_move _ rfl rfl rfl) hHeld ?_
  simp only [ly1, ly2, ly3, Act.put, ly5, ly6, ly7]
  refine wpAnyH_take (i := 4) (v := .pointer (some p)) rfl (by kernel_rfl) (by kernel_rfl) (by kernel_rfl) (fun _ _ _ h => h) (.inl ⟨by kernel_rfl, fun w _ => by go_simp⟩) hHeld ?_
  simp only [ly1, ly2, ly3, Act.put, ly5, ly6, ly7]
  refine wpAnyH_take (i := 5) (v := .agg cx.toArray) rfl (by kernel_rfl) (by kernel_rfl) (by kernel_rfl) (fun _ _ _ h => h) (yieldsIf_load_far (by kernel_rfl) _ _ rfl p rfl _ _ (fun W h => h) Try.underlying28 rfl (by exact hC.out.size')) hHeld ?_
  simp only [ly1, ly2, ly3, Act.put, ly5, ly6, ly7]
  refine wpAnyH_ready (rs := [6]) (by kernel_rfl) (by simp) (AllReadyH.cons rfl (fun K hK => ?_) AllReadyH.nil)
  have hK' := hid hK
  clear hK
  rw [if_pos (by kernel_rfl)]
  simp only [ly1, ly2, ly3]
  refine wp_store_mid _ _ _ rfl (w.heap.size + 1) 0 cx.toArray rfl rfl (by exact hC.out.there' hR1.out rfl) (by exact hC.out.size) (by exact hC.out.one) ?_
  generalize hX1 : World.setCells _ _ _ _ = X1
  obtain ⟨hRx, hbx⟩ := hC.out.set hR1.out rfl hX1 hb1.out (by omega)
  have hRx1 := hid hRx
  have hbx1 := hid hbx
  have hSx1 := hid (holds_far hS1.out (by omega) hX1)

  clear hX1 hRx hbx
  refine hK'.out _ _ (by exact hcx.out _ hbx1.out) (fun hHeld => ?_)
  clear hK' K
  refine wpAnyH_ready (rs := [7]) (by kernel_rfl) (by simp) (AllReadyH.cons rfl (fun K hK => ?_) AllReadyH.nil)
  have hK' := hid hK
  clear hK
  rw [if_pos (by kernel_rfl)]
  simp only [ly1, ly2, ly3]
  refine wp_store_mid _ _ _ rfl (w.heap.size + 2) 0 cx.toArray rfl rfl (by exact hC.out.there' hSx1.out rfl) (by exact hC.out.size) (by exact hC.out.one) ?_
  generalize hX2 : World.setCells _ _ _ _ = X2
  obtain ⟨hSx, hbx⟩ := hC.out.set hSx1.out rfl hX2 hbx1.out (by omega)
  have hSx2 := hid hSx
  have hbx2 := hid hbx
  have hRx2 := hid (holds_far hRx1.out (by omega) hX2)

  clear hX2 hSx hbx
  refine hK'.out _ _ (by exact hcx.out _ hbx2.out) (fun hHeld => ?_)
  clear hK' K
  refine wpAnyH_take (i := 8) (v := .bool true) rfl (by kernel_rfl) (by kernel_rfl) (by kernel_rfl) (fun _ _ _ h => h) (yieldsIf_assign _ rfl rfl rfl) hHeld ?_
  simp only [ly1, ly2, ly3, Act.put, ly5, ly6, ly7]
  refine wpAnyH_done (by kernel_rfl) ?_ _
  clear hHeld
  go_wp2_with fail
  exact bodyPost_ret (results_cct rfl _ _ (w.heap.size + 1) (w.heap.size + 2) 28 _ _ _ rfl rfl hRx2.out hSx2.out (.bool true) rfl Try.underlying28 rfl (by exact hC.out.size) (by exact hC.out.size)) rfl ⟨rfl, hbx2.out⟩

end Go.Proofs.Ytenfhmpjhbpkpaa
