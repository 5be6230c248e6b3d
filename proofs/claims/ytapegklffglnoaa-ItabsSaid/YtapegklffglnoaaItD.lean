/- Layer 14: Put. -/
import Derived.Test.YtapegklffglnoaaItC
namespace Go.Proofs.Ytapegklffglnoaa
open Go.RowKit

/-- A table's bytes. -/
def tabBytes (xs : List Ino) : ByteArray := tabFrom ((⟨#[]⟩ : ByteArray) ++ ⟨#[84]⟩ ++ be 1 xs.length) xs
noncomputable def putS (xs : List Ino) : ByteArray × Int := if itabB xs then (tabBytes xs, 0) else (⟨#[]⟩, 1400)
theorem putS_yes {xs : List Ino} (h : itabB xs = true) : putS xs = (tabBytes xs, 0) := by unfold putS; rw [if_pos h]
theorem putS_no {xs : List Ino} (h : itabB xs = false) : putS xs = (⟨#[]⟩, 1400) := by unfold putS; rw [if_neg (by rw [h]; decide)]
def PutPost (s : ByteArray) (x : Int) (w : World) (e : Ending) (w' : World) : Prop := e = .returned (.tuple #[.string s, .int .i64 x]) ∧ Below w.heap.size w w'

theorem Ino.num_may {x : Ino} (h : x.may = true) : 1 ≤ x.num ∧ x.num ≤ 32 := by
  unfold Ino.may mayB at h
  have h := of_decide_eq_true h
  omega
theorem rises_num {xs : List Ino} (h : Itab xs) : ∀ i (hi : i < xs.length), (i : Int) + 1 ≤ xs[i].num
  | 0, hi => by have := (xs[0].num_may (h.1 _ (List.getElem_mem hi))).1; omega
  | i + 1, hi => by
    have h1 := rises_num h i (by omega)
    have h2 := h.2 i _ _ hi (List.getElem?_eq_getElem (by omega)) (List.getElem?_eq_getElem hi)
    omega
theorem itab_len {xs : List Ino} (h : Itab xs) : xs.length ≤ 32 := by
  by_cases e : xs.length = 0
  · omega
  · have h1 := rises_num h (xs.length - 1) (by omega)
    have h2 := ((xs[xs.length - 1]'(by omega)).num_may (h.1 _ (List.getElem_mem _))).2
    omega

set_option maxRecDepth 100000 in
set_option maxHeartbeats 2000000 in
theorem itabPut_any (A : Option Addr) (n c B : Nat) (xs : List Ino) (w : World) (h : Inos w B A n xs) (hB : B ≤ w.heap.size) (hn : n ≤ 10000000000000) (s : ByteArray) (x : Int) (hs : putS xs = (s, x)) :
    Calls Try.prog 39 #[.slice A n c] w (PutPost s x w) := by
  have hM := hid (itabMay_any A n c B xs w h hB hn)
  have hlen := h.1
  have h' := hid h
  have hB' := hid hB
  cases hi : itabB xs with
  | false =>
    rw [putS_no hi] at hs
    obtain ⟨rfl, rfl⟩ := Prod.mk.inj hs
    rw [hi] at hM
    clear h hB hi hs
    go_enter Try.func39, Try.ntmps39
    go_wp2_with fail
    refine hM.out.mono ?_
    rintro e w1 ⟨rfl, h1⟩
    have h1' := hid h1
    clear h1
    go_wp2_with fail
    go_ret2
    exact ⟨rfl, h1'.out⟩
  | true =>
    rw [putS_yes hi] at hs
    obtain ⟨rfl, rfl⟩ := Prod.mk.inj hs
    rw [hi] at hM
    have hT := itabB_of hi
    have hle := itab_len hT
    have hall := hid hT.1
    clear h hB hi hs hT
    go_enter Try.func39, Try.ntmps39
    go_wp2_with fail
    refine hM.out.mono ?_
    rintro e w1 ⟨rfl, h1⟩
    have h1' := hid h1
    have hI1 := hid ((h'.out.more hB'.out).below h1)
    clear h1
    go_wp2_with (go_at_call 52; refine (codecNew_any _).mono ?_; rintro e w' ⟨rfl, rfl⟩)
    have hp0 := PutSt.fresh w1
    have hb0 : Below w1.heap.size w1 _ := (((Below.refl w1.heap.size w1).alloc (Nat.le_refl _) (.cells #[.slice none 0 0] 154)).alloc (by simp) (.cells #[.pointer (some ⟨w1.heap.size, 0, none⟩), .bool false] 130)).alloc (by simp; omega) (.cells #[.pointer (some ⟨w1.heap.size + 1, 0, none⟩)] 84)
    have hb0' := hid hb0
    refine (cMark_any 84 _ _ _ _ _ _ hp0 (by decide)).mono ?_
    rintro e w2 ⟨rfl, h2, hb2⟩
    obtain ⟨q, hq⟩ : ∃ q, w1.heap.size = q := ⟨_, rfl⟩
    have hIq : Inos w1 q A n xs := hI1.out.more (by rw [← hq]; exact h1'.out.size)
    rw [hq] at h2 hb0 hb2
    have hI2 := (hIq.below (hb0.trans hb2))
    have hBq := hid (h1'.out.trans ((hb0.trans hb2).mono (by rw [← hq]; exact h1'.out.size)))
    have hc2 := (h2.held (List.mem_cons_self ..)).cell 0
    simp at hc2
    have hL := hid (listIno_any A n c xs q (q + 1) q (q + 1 + 1) _ _ w2 h2 (List.mem_cons_self ..) hI2 hall.out (by omega) (by rw [ByteArray.size_append]; show 0 + 1 + 1 + 38 * n ≤ 65536; omega))
    rw [show tabFrom (ByteArray.empty ++ ⟨#[84]⟩ ++ be 1 n) xs = tabBytes xs from by unfold tabBytes; rw [hlen]; rfl] at hL
    clear hp0 hb0 hb0' hb2 h2 hI2 hIq
    rw [hq]
    go_wp2_with fail
    refine hL.out.mono ?_
    rintro e w3 ⟨rfl, h3, hb3⟩
    have hc3 := (h3.held (List.mem_cons_self ..)).cell 0
    simp at hc3
    have hA := hid (cAll_any q (q + 1) q _ _ w3 h3)
    have hB3 := hid (hBq.out.trans (hb3.mono (by rw [← hq]; exact h1'.out.size)))
    clear h3 hb3
    go_wp2_with fail
    refine hA.out.mono ?_
    rintro e w4 ⟨rfl, h4⟩
    have hB4 := hid (hB3.out.trans (h4.mono (by rw [← hq]; exact h1'.out.size)))
    clear h4
    go_wp2_with fail
    go_ret2
    exact ⟨rfl, hB4.out⟩

end Go.Proofs.Ytapegklffglnoaa
