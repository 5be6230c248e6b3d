/- Layer 14: the reference's ItabMay. -/
import Derived.Test.YtapegklffglnoaaItP
namespace Go.Proofs.Ytapegklffglnoaa
open Go.RowKit

set_option maxRecDepth 100000 in
set_option maxHeartbeats 2000000 in
theorem refInoMay_any (i : Ino) (w : World) :
    Calls Try.prog 90 #[.agg i.cells.toArray] w (MayPost i.may w) := by
  obtain ⟨h0, h1, h2, h3, h4⟩ := i.at_
  obtain ⟨num, kind, mode, links, size, root⟩ := i
  generalize (Ino.cells ⟨num, kind, mode, links, size, root⟩).toArray = C at h0 h1 h2 h3 h4 ⊢
  dsimp only at h0 h1 h2 h3 h4
  have hB : Below w.heap.size w (w.alloc (.cells C 78)) := (Below.refl _ _).alloc (Nat.le_refl _) _
  have hH := Holds.new w 78 C
  have c0 : (w.alloc (.cells C 78)).cell? ⟨w.heap.size, 0, none⟩ = some (.int .i64 num) := by rw [hH.cell]; simpa using h0
  have c1 : (w.alloc (.cells C 78)).cell? ⟨w.heap.size, 1, none⟩ = some (.int .i64 kind) := by rw [hH.cell]; simpa using h1
  have c2 : (w.alloc (.cells C 78)).cell? ⟨w.heap.size, 2, none⟩ = some (.int .i64 mode) := by rw [hH.cell]; simpa using h2
  have c3 : (w.alloc (.cells C 78)).cell? ⟨w.heap.size, 3, none⟩ = some (.int .i64 links) := by rw [hH.cell]; simpa using h3
  have c4 : (w.alloc (.cells C 78)).cell? ⟨w.heap.size, 4, none⟩ = some (.int .i64 size) := by rw [hH.cell]; simpa using h4
  have hB' := hid hB
  clear hB hH
  unfold Ino.may
  dsimp only
  obtain ⟨b, hb⟩ : ∃ b, mayB num kind mode links size = b := ⟨_, rfl⟩
  rw [hb]
  have hb' := hid hb
  clear hb
  go_enter Try.func90, Try.ntmps90
  go_wp2_with fail
  all_goals first
    | ((obtain rfl : b = false := by rw [← hb'.out]; exact decide_eq_false (by omega)); go_ret; exact ⟨rfl, hB'.out⟩)
    | ((obtain rfl : b = true := by rw [← hb'.out]; exact decide_eq_true (by omega)); go_ret; exact ⟨rfl, hB'.out⟩)
    | ((obtain rfl : b = decide (size ≤ 4096) := by rw [← hb'.out]; unfold mayB; rw [Bool.eq_iff_iff, decide_eq_true_iff, decide_eq_true_iff]; omega); go_ret; exact ⟨rfl, hB'.out⟩)

/-- The cells of one of them. -/
theorem Inos.cells_at {w : World} {B n k : Nat} {p : Addr} {xs : List Ino} {a : Ino} (h : Inos w B (some p) n xs) (ha : xs[k]? = some a) : ∀ j v, a.cells[j]? = some v → w.cell? ((p.add (k * 37)).add j) = some v := by
  obtain ⟨hk, _⟩ := List.getElem?_eq_some_iff.1 ha
  obtain ⟨q, b, hq, _, hb, _, hc⟩ := h.get (k := k) (by rw [← h.1]; exact hk)
  cases hq
  rw [ha] at hb
  cases hb
  exact hc
theorem Inos.num_at {w : World} {B n k : Nat} {p : Addr} {xs : List Ino} {a : Ino} (h : Inos w B (some p) n xs) (ha : xs[k]? = some a) : w.cell? (p.add (k * 37)) = some (.int .i64 a.num) := by
  have h1 := h.cells_at ha 0 (.int .i64 a.num) rfl
  rwa [add_add, Nat.add_zero] at h1

set_option maxRecDepth 100000 in
set_option maxHeartbeats 8000000 in
theorem refItabMay_any (A : Option Addr) (n c B : Nat) (xs : List Ino) (w : World) (h : Inos w B A n xs) (hB : B ≤ w.heap.size) (hn : n ≤ 10000000000000) :
    Calls Try.prog 45 #[.slice A n c] w (MayPost (itabB xs) w) := by
  obtain ⟨R, hR⟩ : ∃ R, itabB xs = R := ⟨_, rfl⟩
  rw [hR]
  have hR' := hid hR
  have h' := hid (h.more hB)
  have hlen := h.1
  clear hR h
  go_enter Try.func45, Try.ntmps45
  go_wp2_with fail
  go_loopw [3] (fun i wr => ∃ k : Nat, k ≤ n ∧ i = .int .i64 (k : Int) ∧ Below w.heap.size w wr ∧ (∀ j x, j < k → xs[j]? = some x → x.may = true) ∧ RisesTo k xs) (fun i _ => n - (intOf i).toNat)
  case atStart => exact ⟨0, Nat.zero_le _, rfl, Below.refl _ _, fun j x hj _ => by omega, fun i a b hi _ _ => by omega⟩
  case round =>
    obtain ⟨k, hk, rfl, hBr, hok, hri⟩ := hrel
    have hok' := hid hok
    have hri' := hid hri
    clear hok hri
    by_cases hlt : k < n
    · obtain ⟨p, a, hpA, hpB, ha, hfa, hca⟩ := (h'.out.below hBr).get (k := k) hlt
      subst hpA
      have hlt' : (k : Int) < (n : Int) := by omega
      have hi1 : (Try.prog.info? 78).map (·.size) = some a.cells.length := by rw [Ino.len hfa]; exact Try.infoIno
      have ha' := hid ha
      have hBd := hid hBr.drew
      have hSd := h'.out.below hBd.out
      clear hca ha hBr
      have hcm := refInoMay_any a
      cases ham : a.may with
      | false =>
        rw [ham] at hcm
        have hcallm := hid hcm
        obtain rfl : R = false := by
          rw [← hR'.out]
          refine itabB_no fun hall => ?_
          rw [hall.1 a (List.mem_of_getElem? ha'.out)] at ham
          cases ham
        clear hcm ham
        go_wp2_with fail
        refine wp_region_held_drew (S := fun W => Inos W w.heap.size (some p) n xs) (by kernel_rfl) (by exact hSd) (fun hHeld => ?_)
        refine wpAnyH_take (i := 0) (v := .slice (some p) n c) rfl (by kernel_rfl) (by kernel_rfl) (by kernel_rfl) (fun _ _ _ h => h) (yieldsIf_move _ rfl rfl rfl) hHeld ?_
        simp only [ly1, ly2, ly3, Act.put, ly5, ly6, ly7]
        refine wpAnyH_take (i := 1) (v := .int .i64 (k : Int)) rfl (by kernel_rfl) (by kernel_rfl) (by kernel_rfl) (fun _ _ _ h => h) (yieldsIf_move _ rfl rfl rfl) hHeld ?_
        simp only [ly1, ly2, ly3, Act.put, ly5, ly6, ly7]
        refine wpAnyH_take (i := 2) (v := .pointer (some (p.add (k * 37)))) rfl (by kernel_rfl) (by kernel_rfl) (by kernel_rfl) (fun _ _ _ h => h) (.inl ⟨by kernel_rfl, fun w _ => by go_simp⟩) hHeld ?_
        simp only [ly1, ly2, ly3, Act.put, ly5, ly6, ly7]
        refine wpAnyH_take (i := 3) (v := .agg a.cells.toArray) rfl (by kernel_rfl) (by kernel_rfl) (by kernel_rfl) (fun _ _ _ h => h) (yieldsIf_load_any (by kernel_rfl) _ _ rfl _ rfl _ _ (fun w hw => hw.cells_at ha'.out) Try.underlying78 rfl hi1) hHeld ?_
        simp only [ly1, ly2, ly3, Act.put, ly5, ly6, ly7]
        refine wpAnyH_ready (rs := [4]) (by kernel_rfl) (by simp) (AllReadyH.cons rfl (fun K hK => ?_) AllReadyH.nil)
        have hK' := hid hK
        clear hK
        rw [if_pos (by kernel_rfl)]
        simp only [ly1, ly2, ly3]
        go_simp
        refine (hcallm.out _).mono ?_
        rintro e W1 ⟨rfl, hb⟩
        have hB1 := hid (hBd.out.trans (hb.mono hBd.out.size))
        have hS1 := hid (h'.out.below hB1.out)
        clear hb
        refine hK'.out _ _ (by exact hS1.out) (fun hHeld => ?_)
        clear hK' K
        refine wpAnyH_take (i := 5) (v := .bool true) rfl (by kernel_rfl) (by kernel_rfl) (by kernel_rfl) (fun _ _ _ h => h) (.inl ⟨by kernel_rfl, fun w _ => by go_simp⟩) hHeld ?_
        simp only [ly1, ly2, ly3, Act.put, ly5, ly6, ly7]
        refine wpAnyH_take (i := 6) (v := .bool true) rfl (by kernel_rfl) (by kernel_rfl) (by kernel_rfl) (fun _ _ _ h => h) (yieldsIf_move _ rfl rfl rfl) hHeld ?_
        simp only [ly1, ly2, ly3, Act.put, ly5, ly6, ly7]
        refine wpAnyH_take (i := 7) (v := undef) rfl (by kernel_rfl) (by kernel_rfl) (by kernel_rfl) (fun _ _ _ h => h) (.inr ⟨by kernel_rfl, rfl⟩) hHeld ?_
        simp only [ly1, ly2, ly3, Act.put, ly5, ly6, ly7]
        refine wpAnyH_take (i := 8) (v := undef) rfl (by kernel_rfl) (by kernel_rfl) (by kernel_rfl) (fun _ _ _ h => h) (.inr ⟨by kernel_rfl, rfl⟩) hHeld ?_
        simp only [ly1, ly2, ly3, Act.put, ly5, ly6, ly7]
        refine wpAnyH_take (i := 9) (v := undef) rfl (by kernel_rfl) (by kernel_rfl) (by kernel_rfl) (fun _ _ _ h => h) (.inr ⟨by kernel_rfl, rfl⟩) hHeld ?_
        simp only [ly1, ly2, ly3, Act.put, ly5, ly6, ly7]
        refine wpAnyH_take (i := 10) (v := undef) rfl (by kernel_rfl) (by kernel_rfl) (by kernel_rfl) (fun _ _ _ h => h) (.inr ⟨by kernel_rfl, rfl⟩) hHeld ?_
        simp only [ly1, ly2, ly3, Act.put, ly5, ly6, ly7]
        refine wpAnyH_take (i := 11) (v := undef) rfl (by kernel_rfl) (by kernel_rfl) (by kernel_rfl) (fun _ _ _ h => h) (.inr ⟨by kernel_rfl, rfl⟩) hHeld ?_
        simp only [ly1, ly2, ly3, Act.put, ly5, ly6, ly7]
        refine wpAnyH_take (i := 12) (v := undef) rfl (by kernel_rfl) (by kernel_rfl) (by kernel_rfl) (fun _ _ _ h => h) (.inr ⟨by kernel_rfl, rfl⟩) hHeld ?_
        simp only [ly1, ly2, ly3, Act.put, ly5, ly6, ly7]
        refine wpAnyH_take (i := 13) (v := undef) rfl (by kernel_rfl) (by kernel_rfl) (by kernel_rfl) (fun _ _ _ h => h) (.inr ⟨by kernel_rfl, rfl⟩) hHeld ?_
        simp only [ly1, ly2, ly3, Act.put, ly5, ly6, ly7]
        refine wpAnyH_take (i := 14) (v := undef) rfl (by kernel_rfl) (by kernel_rfl) (by kernel_rfl) (fun _ _ _ h => h) (.inr ⟨by kernel_rfl, rfl⟩) hHeld ?_
        simp only [ly1, ly2, ly3, Act.put, ly5, ly6, ly7]
        refine wpAnyH_take (i := 15) (v := undef) rfl (by kernel_rfl) (by kernel_rfl) (by kernel_rfl) (fun _ _ _ h => h) (.inr ⟨by kernel_rfl, rfl⟩) hHeld ?_
        simp only [ly1, ly2, ly3, Act.put, ly5, ly6, ly7]
        refine wpAnyH_take (i := 16) (v := undef) rfl (by kernel_rfl) (by kernel_rfl) (by kernel_rfl) (fun _ _ _ h => h) (.inr ⟨by kernel_rfl, rfl⟩) hHeld ?_
        simp only [ly1, ly2, ly3, Act.put, ly5, ly6, ly7]
        refine wpAnyH_take (i := 17) (v := undef) rfl (by kernel_rfl) (by kernel_rfl) (by kernel_rfl) (fun _ _ _ h => h) (.inr ⟨by kernel_rfl, rfl⟩) hHeld ?_
        simp only [ly1, ly2, ly3, Act.put, ly5, ly6, ly7]
        refine wpAnyH_take (i := 18) (v := undef) rfl (by kernel_rfl) (by kernel_rfl) (by kernel_rfl) (fun _ _ _ h => h) (.inr ⟨by kernel_rfl, rfl⟩) hHeld ?_
        simp only [ly1, ly2, ly3, Act.put, ly5, ly6, ly7]
        refine wpAnyH_take (i := 19) (v := undef) rfl (by kernel_rfl) (by kernel_rfl) (by kernel_rfl) (fun _ _ _ h => h) (.inr ⟨by kernel_rfl, rfl⟩) hHeld ?_
        simp only [ly1, ly2, ly3, Act.put, ly5, ly6, ly7]
        refine wpAnyH_take (i := 20) (v := undef) rfl (by kernel_rfl) (by kernel_rfl) (by kernel_rfl) (fun _ _ _ h => h) (.inr ⟨by kernel_rfl, rfl⟩) hHeld ?_
        simp only [ly1, ly2, ly3, Act.put, ly5, ly6, ly7]
        refine wpAnyH_take (i := 21) (v := undef) rfl (by kernel_rfl) (by kernel_rfl) (by kernel_rfl) (fun _ _ _ h => h) (.inr ⟨by kernel_rfl, rfl⟩) hHeld ?_
        simp only [ly1, ly2, ly3, Act.put, ly5, ly6, ly7]
        refine wpAnyH_take (i := 22) (v := undef) rfl (by kernel_rfl) (by kernel_rfl) (by kernel_rfl) (fun _ _ _ h => h) (.inr ⟨by kernel_rfl, rfl⟩) hHeld ?_
        simp only [ly1, ly2, ly3, Act.put, ly5, ly6, ly7]
        refine wpAnyH_take (i := 23) (v := .bool true) rfl (by kernel_rfl) (by kernel_rfl) (by kernel_rfl) (fun _ _ _ h => h) (.inl ⟨by kernel_rfl, fun w _ => by go_simp⟩) hHeld ?_
        simp only [ly1, ly2, ly3, Act.put, ly5, ly6, ly7]
        refine wpAnyH_done (by kernel_rfl) ?_ _
        go_wp2_with fail
        go_ret
        exact ⟨rfl, hB1.out⟩
      | true =>
        rw [ham] at hcm
        have hcallm := hid hcm
        have hok2 := hid (show ∀ j x, j < k + 1 → xs[j]? = some x → x.may = true from fun j x hj hx => by
          by_cases e : j < k
          · exact hok'.out j x e hx
          · have e1 : j = k := by omega
            subst e1
            rw [ha'.out] at hx
            rw [← Option.some.inj hx]
            exact ham)
        clear hcm ham
        by_cases hk0 : k = 0
        · have hk1 : ¬ (0 : Int) < (k : Int) := by omega
          have hri2 := hid (show RisesTo (k + 1) xs from fun i x y hi _ _ => by omega)
          clear hk0
          go_wp2_with fail
          refine wp_region_held_drew (S := fun W => Inos W w.heap.size (some p) n xs) (by kernel_rfl) (by exact hSd) (fun hHeld => ?_)
          refine wpAnyH_take (i := 0) (v := .slice (some p) n c) rfl (by kernel_rfl) (by kernel_rfl) (by kernel_rfl) (fun _ _ _ h => h) (yieldsIf_move _ rfl rfl rfl) hHeld ?_
          simp only [ly1, ly2, ly3, Act.put, ly5, ly6, ly7]
          refine wpAnyH_take (i := 1) (v := .int .i64 (k : Int)) rfl (by kernel_rfl) (by kernel_rfl) (by kernel_rfl) (fun _ _ _ h => h) (yieldsIf_move _ rfl rfl rfl) hHeld ?_
          simp only [ly1, ly2, ly3, Act.put, ly5, ly6, ly7]
          refine wpAnyH_take (i := 2) (v := .pointer (some (p.add (k * 37)))) rfl (by kernel_rfl) (by kernel_rfl) (by kernel_rfl) (fun _ _ _ h => h) (.inl ⟨by kernel_rfl, fun w _ => by go_simp⟩) hHeld ?_
          simp only [ly1, ly2, ly3, Act.put, ly5, ly6, ly7]
          refine wpAnyH_take (i := 3) (v := .agg a.cells.toArray) rfl (by kernel_rfl) (by kernel_rfl) (by kernel_rfl) (fun _ _ _ h => h) (yieldsIf_load_any (by kernel_rfl) _ _ rfl _ rfl _ _ (fun w hw => hw.cells_at ha'.out) Try.underlying78 rfl hi1) hHeld ?_
          simp only [ly1, ly2, ly3, Act.put, ly5, ly6, ly7]
          refine wpAnyH_ready (rs := [4]) (by kernel_rfl) (by simp) (AllReadyH.cons rfl (fun K hK => ?_) AllReadyH.nil)
          have hK' := hid hK
          clear hK
          rw [if_pos (by kernel_rfl)]
          simp only [ly1, ly2, ly3]
          go_simp
          refine (hcallm.out _).mono ?_
          rintro e W1 ⟨rfl, hb⟩
          have hB1 := hid (hBd.out.trans (hb.mono hBd.out.size))
          have hS1 := hid (h'.out.below hB1.out)
          clear hb
          refine hK'.out _ _ (by exact hS1.out) (fun hHeld => ?_)
          clear hK' K
          refine wpAnyH_take (i := 5) (v := .bool false) rfl (by kernel_rfl) (by kernel_rfl) (by kernel_rfl) (fun _ _ _ h => h) (.inl ⟨by kernel_rfl, fun w _ => by go_simp⟩) hHeld ?_
          simp only [ly1, ly2, ly3, Act.put, ly5, ly6, ly7]
          refine wpAnyH_take (i := 6) (v := .bool false) rfl (by kernel_rfl) (by kernel_rfl) (by kernel_rfl) (fun _ _ _ h => h) (yieldsIf_move _ rfl rfl rfl) hHeld ?_
          simp only [ly1, ly2, ly3, Act.put, ly5, ly6, ly7]
          refine wpAnyH_take (i := 7) (v := .int .i64 (k : Int)) rfl (by kernel_rfl) (by kernel_rfl) (by kernel_rfl) (fun _ _ _ h => h) (.inl ⟨by kernel_rfl, fun w _ => by go_simp⟩) hHeld ?_
          simp only [ly1, ly2, ly3, Act.put, ly5, ly6, ly7]
          refine wpAnyH_take (i := 8) (v := .bool false) rfl (by kernel_rfl) (by kernel_rfl) (by kernel_rfl) (fun _ _ _ h => h) (.inl ⟨by kernel_rfl, fun w _ => by go_simp <;> omega⟩) hHeld ?_
          simp only [ly1, ly2, ly3, Act.put, ly5, ly6, ly7]
          refine wpAnyH_take (i := 9) (v := .bool false) rfl (by kernel_rfl) (by kernel_rfl) (by kernel_rfl) (fun _ _ _ h => h) (.inl ⟨by kernel_rfl, fun w _ => by go_simp⟩) hHeld ?_
          simp only [ly1, ly2, ly3, Act.put, ly5, ly6, ly7]
          refine wpAnyH_take (i := 10) (v := undef) rfl (by kernel_rfl) (by kernel_rfl) (by kernel_rfl) (fun _ _ _ h => h) (.inr ⟨by kernel_rfl, rfl⟩) hHeld ?_
          simp only [ly1, ly2, ly3, Act.put, ly5, ly6, ly7]
          refine wpAnyH_take (i := 11) (v := undef) rfl (by kernel_rfl) (by kernel_rfl) (by kernel_rfl) (fun _ _ _ h => h) (.inr ⟨by kernel_rfl, rfl⟩) hHeld ?_
          simp only [ly1, ly2, ly3, Act.put, ly5, ly6, ly7]
          refine wpAnyH_take (i := 12) (v := undef) rfl (by kernel_rfl) (by kernel_rfl) (by kernel_rfl) (fun _ _ _ h => h) (.inr ⟨by kernel_rfl, rfl⟩) hHeld ?_
          simp only [ly1, ly2, ly3, Act.put, ly5, ly6, ly7]
          refine wpAnyH_take (i := 13) (v := undef) rfl (by kernel_rfl) (by kernel_rfl) (by kernel_rfl) (fun _ _ _ h => h) (.inr ⟨by kernel_rfl, rfl⟩) hHeld ?_
          simp only [ly1, ly2, ly3, Act.put, ly5, ly6, ly7]
          refine wpAnyH_take (i := 14) (v := undef) rfl (by kernel_rfl) (by kernel_rfl) (by kernel_rfl) (fun _ _ _ h => h) (.inr ⟨by kernel_rfl, rfl⟩) hHeld ?_
          simp only [ly1, ly2, ly3, Act.put, ly5, ly6, ly7]
          refine wpAnyH_take (i := 15) (v := undef) rfl (by kernel_rfl) (by kernel_rfl) (by kernel_rfl) (fun _ _ _ h => h) (.inr ⟨by kernel_rfl, rfl⟩) hHeld ?_
          simp only [ly1, ly2, ly3, Act.put, ly5, ly6, ly7]
          refine wpAnyH_take (i := 16) (v := undef) rfl (by kernel_rfl) (by kernel_rfl) (by kernel_rfl) (fun _ _ _ h => h) (.inr ⟨by kernel_rfl, rfl⟩) hHeld ?_
          simp only [ly1, ly2, ly3, Act.put, ly5, ly6, ly7]
          refine wpAnyH_take (i := 17) (v := undef) rfl (by kernel_rfl) (by kernel_rfl) (by kernel_rfl) (fun _ _ _ h => h) (.inr ⟨by kernel_rfl, rfl⟩) hHeld ?_
          simp only [ly1, ly2, ly3, Act.put, ly5, ly6, ly7]
          refine wpAnyH_take (i := 18) (v := undef) rfl (by kernel_rfl) (by kernel_rfl) (by kernel_rfl) (fun _ _ _ h => h) (.inr ⟨by kernel_rfl, rfl⟩) hHeld ?_
          simp only [ly1, ly2, ly3, Act.put, ly5, ly6, ly7]
          refine wpAnyH_take (i := 19) (v := undef) rfl (by kernel_rfl) (by kernel_rfl) (by kernel_rfl) (fun _ _ _ h => h) (.inr ⟨by kernel_rfl, rfl⟩) hHeld ?_
          simp only [ly1, ly2, ly3, Act.put, ly5, ly6, ly7]
          refine wpAnyH_take (i := 20) (v := undef) rfl (by kernel_rfl) (by kernel_rfl) (by kernel_rfl) (fun _ _ _ h => h) (.inr ⟨by kernel_rfl, rfl⟩) hHeld ?_
          simp only [ly1, ly2, ly3, Act.put, ly5, ly6, ly7]
          refine wpAnyH_take (i := 21) (v := undef) rfl (by kernel_rfl) (by kernel_rfl) (by kernel_rfl) (fun _ _ _ h => h) (.inr ⟨by kernel_rfl, rfl⟩) hHeld ?_
          simp only [ly1, ly2, ly3, Act.put, ly5, ly6, ly7]
          refine wpAnyH_take (i := 22) (v := .bool false) rfl (by kernel_rfl) (by kernel_rfl) (by kernel_rfl) (fun _ _ _ h => h) (.inl ⟨by kernel_rfl, fun w _ => by go_simp⟩) hHeld ?_
          simp only [ly1, ly2, ly3, Act.put, ly5, ly6, ly7]
          refine wpAnyH_take (i := 23) (v := .bool false) rfl (by kernel_rfl) (by kernel_rfl) (by kernel_rfl) (fun _ _ _ h => h) (.inl ⟨by kernel_rfl, fun w _ => by go_simp⟩) hHeld ?_
          simp only [ly1, ly2, ly3, Act.put, ly5, ly6, ly7]
          refine wpAnyH_done (by kernel_rfl) ?_ _
          go_wp2_with fail
          go_roundw
          case rel => exact ⟨k + 1, by omega, by go_num, hB1.out, hok2.out, hri2.out⟩
          case measure => simp [intOf]; omega
        · have hk1 : (0 : Int) < (k : Int) := by omega
          have hk2 : (k : Int) - 1 < (n : Int) := by omega
          have hk3 : (0 : Int) ≤ (k : Int) - 1 := by omega
          have hkw : IntKind.i64.wrap ((k : Int) - 1) = (k : Int) - 1 := IntWalk.i64_in _ (by omega)
          have hkn : ((k : Int) - 1).toNat = k - 1 := by omega
          obtain ⟨a0, ha0⟩ : ∃ a0, xs[k - 1]? = some a0 := ⟨xs[k - 1]'(by omega), List.getElem?_eq_getElem _⟩
          have ha0' := hid ha0
          clear ha0
          have hk0' := hid hk0
          clear hk0
          by_cases hlt2 : a0.num < a.num
          · have hge : ¬ a.num ≤ a0.num := by omega
            have hri2 := hid (hri'.out.next (by omega) ha0'.out ha'.out hlt2)
            clear hlt2
            go_wp2_with fail
            refine wp_region_held_drew (S := fun W => Inos W w.heap.size (some p) n xs) (by kernel_rfl) (by exact hSd) (fun hHeld => ?_)
            refine wpAnyH_take (i := 0) (v := .slice (some p) n c) rfl (by kernel_rfl) (by kernel_rfl) (by kernel_rfl) (fun _ _ _ h => h) (yieldsIf_move _ rfl rfl rfl) hHeld ?_
            simp only [ly1, ly2, ly3, Act.put, ly5, ly6, ly7]
            refine wpAnyH_take (i := 1) (v := .int .i64 (k : Int)) rfl (by kernel_rfl) (by kernel_rfl) (by kernel_rfl) (fun _ _ _ h => h) (yieldsIf_move _ rfl rfl rfl) hHeld ?_
            simp only [ly1, ly2, ly3, Act.put, ly5, ly6, ly7]
            refine wpAnyH_take (i := 2) (v := .pointer (some (p.add (k * 37)))) rfl (by kernel_rfl) (by kernel_rfl) (by kernel_rfl) (fun _ _ _ h => h) (.inl ⟨by kernel_rfl, fun w _ => by go_simp⟩) hHeld ?_
            simp only [ly1, ly2, ly3, Act.put, ly5, ly6, ly7]
            refine wpAnyH_take (i := 3) (v := .agg a.cells.toArray) rfl (by kernel_rfl) (by kernel_rfl) (by kernel_rfl) (fun _ _ _ h => h) (yieldsIf_load_any (by kernel_rfl) _ _ rfl _ rfl _ _ (fun w hw => hw.cells_at ha'.out) Try.underlying78 rfl hi1) hHeld ?_
            simp only [ly1, ly2, ly3, Act.put, ly5, ly6, ly7]
            refine wpAnyH_ready (rs := [4]) (by kernel_rfl) (by simp) (AllReadyH.cons rfl (fun K hK => ?_) AllReadyH.nil)
            have hK' := hid hK
            clear hK
            rw [if_pos (by kernel_rfl)]
            simp only [ly1, ly2, ly3]
            go_simp
            refine (hcallm.out _).mono ?_
            rintro e W1 ⟨rfl, hb⟩
            have hB1 := hid (hBd.out.trans (hb.mono hBd.out.size))
            have hS1 := hid (h'.out.below hB1.out)
            clear hb
            refine hK'.out _ _ (by exact hS1.out) (fun hHeld => ?_)
            clear hK' K
            refine wpAnyH_take (i := 5) (v := .bool false) rfl (by kernel_rfl) (by kernel_rfl) (by kernel_rfl) (fun _ _ _ h => h) (.inl ⟨by kernel_rfl, fun w _ => by go_simp⟩) hHeld ?_
            simp only [ly1, ly2, ly3, Act.put, ly5, ly6, ly7]
            refine wpAnyH_take (i := 6) (v := .bool false) rfl (by kernel_rfl) (by kernel_rfl) (by kernel_rfl) (fun _ _ _ h => h) (yieldsIf_move _ rfl rfl rfl) hHeld ?_
            simp only [ly1, ly2, ly3, Act.put, ly5, ly6, ly7]
            refine wpAnyH_take (i := 7) (v := .int .i64 (k : Int)) rfl (by kernel_rfl) (by kernel_rfl) (by kernel_rfl) (fun _ _ _ h => h) (.inl ⟨by kernel_rfl, fun w _ => by go_simp⟩) hHeld ?_
            simp only [ly1, ly2, ly3, Act.put, ly5, ly6, ly7]
            refine wpAnyH_take (i := 8) (v := .bool true) rfl (by kernel_rfl) (by kernel_rfl) (by kernel_rfl) (fun _ _ _ h => h) (.inl ⟨by kernel_rfl, fun w _ => by go_simp <;> omega⟩) hHeld ?_
            simp only [ly1, ly2, ly3, Act.put, ly5, ly6, ly7]
            refine wpAnyH_take (i := 9) (v := .bool true) rfl (by kernel_rfl) (by kernel_rfl) (by kernel_rfl) (fun _ _ _ h => h) (.inl ⟨by kernel_rfl, fun w _ => by go_simp⟩) hHeld ?_
            simp only [ly1, ly2, ly3, Act.put, ly5, ly6, ly7]
            refine wpAnyH_take (i := 10) (v := .slice (some p) n c) rfl (by kernel_rfl) (by kernel_rfl) (by kernel_rfl) (fun _ _ _ h => h) (.inl ⟨by kernel_rfl, fun w _ => by go_simp⟩) hHeld ?_
            simp only [ly1, ly2, ly3, Act.put, ly5, ly6, ly7]
            refine wpAnyH_take (i := 11) (v := .int .i64 (k : Int)) rfl (by kernel_rfl) (by kernel_rfl) (by kernel_rfl) (fun _ _ _ h => h) (.inl ⟨by kernel_rfl, fun w _ => by go_simp⟩) hHeld ?_
            simp only [ly1, ly2, ly3, Act.put, ly5, ly6, ly7]
            refine wpAnyH_take (i := 16) (v := .slice (some p) n c) rfl (by kernel_rfl) (by kernel_rfl) (by kernel_rfl) (fun _ _ _ h => h) (.inl ⟨by kernel_rfl, fun w _ => by go_simp⟩) hHeld ?_
            simp only [ly1, ly2, ly3, Act.put, ly5, ly6, ly7]
            refine wpAnyH_take (i := 17) (v := .int .i64 (k : Int)) rfl (by kernel_rfl) (by kernel_rfl) (by kernel_rfl) (fun _ _ _ h => h) (.inl ⟨by kernel_rfl, fun w _ => by go_simp⟩) hHeld ?_
            simp only [ly1, ly2, ly3, Act.put, ly5, ly6, ly7]
            refine wpAnyH_take (i := 12) (v := .int .i64 ((k : Int) - 1)) rfl (by kernel_rfl) (by kernel_rfl) (by kernel_rfl) (fun _ _ _ h => h) (.inl ⟨by kernel_rfl, fun w _ => by go_simp⟩) hHeld ?_
            simp only [ly1, ly2, ly3, Act.put, ly5, ly6, ly7]
            refine wpAnyH_take (i := 13) (v := .pointer (some (p.add ((k - 1) * 37)))) rfl (by kernel_rfl) (by kernel_rfl) (by kernel_rfl) (fun _ _ _ h => h) (.inl ⟨by kernel_rfl, fun w _ => by go_simp; intro hh; omega⟩) hHeld ?_
            simp only [ly1, ly2, ly3, Act.put, ly5, ly6, ly7]
            refine wpAnyH_take (i := 14) (v := .pointer (some (p.add ((k - 1) * 37)))) rfl (by kernel_rfl) (by kernel_rfl) (by kernel_rfl) (fun _ _ _ h => h) (.inl ⟨by kernel_rfl, fun w _ => by go_simp⟩) hHeld ?_
            simp only [ly1, ly2, ly3, Act.put, ly5, ly6, ly7]
            refine wpAnyH_take (i := 15) (v := .int .i64 a0.num) rfl (by kernel_rfl) (by kernel_rfl) (by kernel_rfl) (fun _ _ _ h => h) (.inl ⟨by kernel_rfl, fun w hw => by have hw1 := hw.num_at ha0'.out; go_simp⟩) hHeld ?_
            simp only [ly1, ly2, ly3, Act.put, ly5, ly6, ly7]
            refine wpAnyH_take (i := 18) (v := .pointer (some (p.add (k * 37)))) rfl (by kernel_rfl) (by kernel_rfl) (by kernel_rfl) (fun _ _ _ h => h) (.inl ⟨by kernel_rfl, fun w _ => by go_simp⟩) hHeld ?_
            simp only [ly1, ly2, ly3, Act.put, ly5, ly6, ly7]
            refine wpAnyH_take (i := 19) (v := .pointer (some (p.add (k * 37)))) rfl (by kernel_rfl) (by kernel_rfl) (by kernel_rfl) (fun _ _ _ h => h) (.inl ⟨by kernel_rfl, fun w _ => by go_simp⟩) hHeld ?_
            simp only [ly1, ly2, ly3, Act.put, ly5, ly6, ly7]
            refine wpAnyH_take (i := 20) (v := .int .i64 a.num) rfl (by kernel_rfl) (by kernel_rfl) (by kernel_rfl) (fun _ _ _ h => h) (.inl ⟨by kernel_rfl, fun w hw => by have hw1 := hw.num_at ha'.out; go_simp⟩) hHeld ?_
            simp only [ly1, ly2, ly3, Act.put, ly5, ly6, ly7]
            refine wpAnyH_take (i := 21) (v := .bool false) rfl (by kernel_rfl) (by kernel_rfl) (by kernel_rfl) (fun _ _ _ h => h) (.inl ⟨by kernel_rfl, fun w _ => by go_simp⟩) hHeld ?_
            simp only [ly1, ly2, ly3, Act.put, ly5, ly6, ly7]
            refine wpAnyH_take (i := 22) (v := .bool false) rfl (by kernel_rfl) (by kernel_rfl) (by kernel_rfl) (fun _ _ _ h => h) (.inl ⟨by kernel_rfl, fun w _ => by go_simp⟩) hHeld ?_
            simp only [ly1, ly2, ly3, Act.put, ly5, ly6, ly7]
            refine wpAnyH_take (i := 23) (v := .bool false) rfl (by kernel_rfl) (by kernel_rfl) (by kernel_rfl) (fun _ _ _ h => h) (.inl ⟨by kernel_rfl, fun w _ => by go_simp⟩) hHeld ?_
            simp only [ly1, ly2, ly3, Act.put, ly5, ly6, ly7]
            refine wpAnyH_done (by kernel_rfl) ?_ _
            go_wp2_with fail
            go_roundw
            case rel => exact ⟨k + 1, by omega, by go_num, hB1.out, hok2.out, hri2.out⟩
            case measure => simp [intOf]; omega
          · have hge : a.num ≤ a0.num := by omega
            obtain rfl : R = false := by
              rw [← hR'.out]
              refine itabB_no fun hall => hlt2 ?_
              have h1 := hk0'.out
              have h2 := ha'.out
              have e : k - 1 + 1 = k := by omega
              exact hall.2 (k - 1) a0 a (by omega) ha0'.out (by rw [e]; exact h2)
            clear hlt2
            go_wp2_with fail
            refine wp_region_held_drew (S := fun W => Inos W w.heap.size (some p) n xs) (by kernel_rfl) (by exact hSd) (fun hHeld => ?_)
            refine wpAnyH_take (i := 0) (v := .slice (some p) n c) rfl (by kernel_rfl) (by kernel_rfl) (by kernel_rfl) (fun _ _ _ h => h) (yieldsIf_move _ rfl rfl rfl) hHeld ?_
            simp only [ly1, ly2, ly3, Act.put, ly5, ly6, ly7]
            refine wpAnyH_take (i := 1) (v := .int .i64 (k : Int)) rfl (by kernel_rfl) (by kernel_rfl) (by kernel_rfl) (fun _ _ _ h => h) (yieldsIf_move _ rfl rfl rfl) hHeld ?_
            simp only [ly1, ly2, ly3, Act.put, ly5, ly6, ly7]
            refine wpAnyH_take (i := 2) (v := .pointer (some (p.add (k * 37)))) rfl (by kernel_rfl) (by kernel_rfl) (by kernel_rfl) (fun _ _ _ h => h) (.inl ⟨by kernel_rfl, fun w _ => by go_simp⟩) hHeld ?_
            simp only [ly1, ly2, ly3, Act.put, ly5, ly6, ly7]
            refine wpAnyH_take (i := 3) (v := .agg a.cells.toArray) rfl (by kernel_rfl) (by kernel_rfl) (by kernel_rfl) (fun _ _ _ h => h) (yieldsIf_load_any (by kernel_rfl) _ _ rfl _ rfl _ _ (fun w hw => hw.cells_at ha'.out) Try.underlying78 rfl hi1) hHeld ?_
            simp only [ly1, ly2, ly3, Act.put, ly5, ly6, ly7]
            refine wpAnyH_ready (rs := [4]) (by kernel_rfl) (by simp) (AllReadyH.cons rfl (fun K hK => ?_) AllReadyH.nil)
            have hK' := hid hK
            clear hK
            rw [if_pos (by kernel_rfl)]
            simp only [ly1, ly2, ly3]
            go_simp
            refine (hcallm.out _).mono ?_
            rintro e W1 ⟨rfl, hb⟩
            have hB1 := hid (hBd.out.trans (hb.mono hBd.out.size))
            have hS1 := hid (h'.out.below hB1.out)
            clear hb
            refine hK'.out _ _ (by exact hS1.out) (fun hHeld => ?_)
            clear hK' K
            refine wpAnyH_take (i := 5) (v := .bool false) rfl (by kernel_rfl) (by kernel_rfl) (by kernel_rfl) (fun _ _ _ h => h) (.inl ⟨by kernel_rfl, fun w _ => by go_simp⟩) hHeld ?_
            simp only [ly1, ly2, ly3, Act.put, ly5, ly6, ly7]
            refine wpAnyH_take (i := 6) (v := .bool false) rfl (by kernel_rfl) (by kernel_rfl) (by kernel_rfl) (fun _ _ _ h => h) (yieldsIf_move _ rfl rfl rfl) hHeld ?_
            simp only [ly1, ly2, ly3, Act.put, ly5, ly6, ly7]
            refine wpAnyH_take (i := 7) (v := .int .i64 (k : Int)) rfl (by kernel_rfl) (by kernel_rfl) (by kernel_rfl) (fun _ _ _ h => h) (.inl ⟨by kernel_rfl, fun w _ => by go_simp⟩) hHeld ?_
            simp only [ly1, ly2, ly3, Act.put, ly5, ly6, ly7]
            refine wpAnyH_take (i := 8) (v := .bool true) rfl (by kernel_rfl) (by kernel_rfl) (by kernel_rfl) (fun _ _ _ h => h) (.inl ⟨by kernel_rfl, fun w _ => by go_simp <;> omega⟩) hHeld ?_
            simp only [ly1, ly2, ly3, Act.put, ly5, ly6, ly7]
            refine wpAnyH_take (i := 9) (v := .bool true) rfl (by kernel_rfl) (by kernel_rfl) (by kernel_rfl) (fun _ _ _ h => h) (.inl ⟨by kernel_rfl, fun w _ => by go_simp⟩) hHeld ?_
            simp only [ly1, ly2, ly3, Act.put, ly5, ly6, ly7]
            refine wpAnyH_take (i := 10) (v := .slice (some p) n c) rfl (by kernel_rfl) (by kernel_rfl) (by kernel_rfl) (fun _ _ _ h => h) (.inl ⟨by kernel_rfl, fun w _ => by go_simp⟩) hHeld ?_
            simp only [ly1, ly2, ly3, Act.put, ly5, ly6, ly7]
            refine wpAnyH_take (i := 11) (v := .int .i64 (k : Int)) rfl (by kernel_rfl) (by kernel_rfl) (by kernel_rfl) (fun _ _ _ h => h) (.inl ⟨by kernel_rfl, fun w _ => by go_simp⟩) hHeld ?_
            simp only [ly1, ly2, ly3, Act.put, ly5, ly6, ly7]
            refine wpAnyH_take (i := 16) (v := .slice (some p) n c) rfl (by kernel_rfl) (by kernel_rfl) (by kernel_rfl) (fun _ _ _ h => h) (.inl ⟨by kernel_rfl, fun w _ => by go_simp⟩) hHeld ?_
            simp only [ly1, ly2, ly3, Act.put, ly5, ly6, ly7]
            refine wpAnyH_take (i := 17) (v := .int .i64 (k : Int)) rfl (by kernel_rfl) (by kernel_rfl) (by kernel_rfl) (fun _ _ _ h => h) (.inl ⟨by kernel_rfl, fun w _ => by go_simp⟩) hHeld ?_
            simp only [ly1, ly2, ly3, Act.put, ly5, ly6, ly7]
            refine wpAnyH_take (i := 12) (v := .int .i64 ((k : Int) - 1)) rfl (by kernel_rfl) (by kernel_rfl) (by kernel_rfl) (fun _ _ _ h => h) (.inl ⟨by kernel_rfl, fun w _ => by go_simp⟩) hHeld ?_
            simp only [ly1, ly2, ly3, Act.put, ly5, ly6, ly7]
            refine wpAnyH_take (i := 13) (v := .pointer (some (p.add ((k - 1) * 37)))) rfl (by kernel_rfl) (by kernel_rfl) (by kernel_rfl) (fun _ _ _ h => h) (.inl ⟨by kernel_rfl, fun w _ => by go_simp; intro hh; omega⟩) hHeld ?_
            simp only [ly1, ly2, ly3, Act.put, ly5, ly6, ly7]
            refine wpAnyH_take (i := 14) (v := .pointer (some (p.add ((k - 1) * 37)))) rfl (by kernel_rfl) (by kernel_rfl) (by kernel_rfl) (fun _ _ _ h => h) (.inl ⟨by kernel_rfl, fun w _ => by go_simp⟩) hHeld ?_
            simp only [ly1, ly2, ly3, Act.put, ly5, ly6, ly7]
            refine wpAnyH_take (i := 15) (v := .int .i64 a0.num) rfl (by kernel_rfl) (by kernel_rfl) (by kernel_rfl) (fun _ _ _ h => h) (.inl ⟨by kernel_rfl, fun w hw => by have hw1 := hw.num_at ha0'.out; go_simp⟩) hHeld ?_
            simp only [ly1, ly2, ly3, Act.put, ly5, ly6, ly7]
            refine wpAnyH_take (i := 18) (v := .pointer (some (p.add (k * 37)))) rfl (by kernel_rfl) (by kernel_rfl) (by kernel_rfl) (fun _ _ _ h => h) (.inl ⟨by kernel_rfl, fun w _ => by go_simp⟩) hHeld ?_
            simp only [ly1, ly2, ly3, Act.put, ly5, ly6, ly7]
            refine wpAnyH_take (i := 19) (v := .pointer (some (p.add (k * 37)))) rfl (by kernel_rfl) (by kernel_rfl) (by kernel_rfl) (fun _ _ _ h => h) (.inl ⟨by kernel_rfl, fun w _ => by go_simp⟩) hHeld ?_
            simp only [ly1, ly2, ly3, Act.put, ly5, ly6, ly7]
            refine wpAnyH_take (i := 20) (v := .int .i64 a.num) rfl (by kernel_rfl) (by kernel_rfl) (by kernel_rfl) (fun _ _ _ h => h) (.inl ⟨by kernel_rfl, fun w hw => by have hw1 := hw.num_at ha'.out; go_simp⟩) hHeld ?_
            simp only [ly1, ly2, ly3, Act.put, ly5, ly6, ly7]
            refine wpAnyH_take (i := 21) (v := .bool true) rfl (by kernel_rfl) (by kernel_rfl) (by kernel_rfl) (fun _ _ _ h => h) (.inl ⟨by kernel_rfl, fun w _ => by go_simp⟩) hHeld ?_
            simp only [ly1, ly2, ly3, Act.put, ly5, ly6, ly7]
            refine wpAnyH_take (i := 22) (v := .bool true) rfl (by kernel_rfl) (by kernel_rfl) (by kernel_rfl) (fun _ _ _ h => h) (.inl ⟨by kernel_rfl, fun w _ => by go_simp⟩) hHeld ?_
            simp only [ly1, ly2, ly3, Act.put, ly5, ly6, ly7]
            refine wpAnyH_take (i := 23) (v := .bool true) rfl (by kernel_rfl) (by kernel_rfl) (by kernel_rfl) (fun _ _ _ h => h) (.inl ⟨by kernel_rfl, fun w _ => by go_simp⟩) hHeld ?_
            simp only [ly1, ly2, ly3, Act.put, ly5, ly6, ly7]
            refine wpAnyH_done (by kernel_rfl) ?_ _
            go_wp2_with fail
            go_ret
            exact ⟨rfl, hB1.out⟩
    · have hlt' : ¬ (k : Int) < (n : Int) := by omega
      have e1 : k = n := by omega
      obtain rfl : R = true := by
        rw [← hR'.out]
        refine itabB_yes ⟨fun x hx => ?_, ?_⟩
        · obtain ⟨j, hj⟩ := List.getElem?_of_mem hx
          exact hok'.out j x (by have := (List.getElem?_eq_some_iff.1 hj).1; omega) hj
        · rw [hlen, ← e1]; exact hri'.out
      have hBr' := hid hBr
      clear hBr e1
      go_wp2_with fail
      go_ret
      exact ⟨rfl, hBr'.out⟩

end Go.Proofs.Ytapegklffglnoaa
