/- Layer 13: where an entry stands, or would (on plain things); the comparison of names.
   Layer 13: where an entry stands, or would: the program's walk.
   Layer 13: slices.Grow at entries, laid.
   Parts of a slice. No function of the program is named here.
   Layer 13: slices.Concat of entries. -/
import Derived.Test.YtapegklffglnoaaDirBa
import Derived.Test.YtapegklffglnoaaLoadOn
import Derived.Shelf.Spec.SlicesGrow
import Derived.Test.YtapegklffglnoaaRows
import Derived.Test.YtapegklffglnoaaAts
import Derived.Test.YtapegklffglnoaaYields
namespace Go.Proofs.Ytapegklffglnoaa
open Go.RowKit

theorem rises_lt {xs : List Ent} (h : RisesE xs.length xs) : ∀ (d i : Nat) (a b : Ent), xs[i]? = some a → xs[i + d + 1]? = some b → lessB a.name b.name = true
  | 0, i, a, b, ha, hb => h i a b ((List.getElem?_eq_some_iff.1 hb).1) ha hb
  | d + 1, i, a, b, ha, hb => by
    have hl : i + (d + 1) + 1 < xs.length := (List.getElem?_eq_some_iff.1 hb).1
    obtain ⟨m, hm⟩ : ∃ m, xs[i + d + 1]? = some m := ⟨_, List.getElem?_eq_getElem (by omega)⟩
    exact less_trans _ _ _ (rises_lt h d i a m ha hm) (h (i + d + 1) m b hl hm hb)
theorem rises_up {xs : List Ent} (h : RisesE xs.length xs) {i j : Nat} {a b : Ent} (hij : i < j) (ha : xs[i]? = some a) (hb : xs[j]? = some b) : lessB a.name b.name = true := by
  obtain ⟨d, rfl⟩ : ∃ d, j = i + d + 1 := ⟨j - i - 1, by omega⟩
  exact rises_lt h d i a b ha hb

/-- How many entries have names ahead of k. -/
def lowE (xs : List Ent) (k : ByteArray) : Nat := (xs.takeWhile fun x => lessB x.name k).length
theorem low_of {k : ByteArray} : ∀ {xs : List Ent} {i : Nat}, i ≤ xs.length → (∀ t x, t < i → xs[t]? = some x → lessB x.name k = true) → (∀ x, xs[i]? = some x → lessB x.name k = false) → lowE xs k = i
  | [], i, hi, _, _ => by have : i = 0 := by simpa using hi
                          subst this
                          rfl
  | x :: xs, 0, _, _, h2 => by
    have := h2 x rfl
    simp [lowE, List.takeWhile_cons, this]
  | x :: xs, i + 1, hi, h1, h2 => by
    have hx := h1 0 x (by omega) rfl
    have ih := low_of (k := k) (xs := xs) (i := i) (by simpa using hi) (fun t y ht hy => h1 (t + 1) y (by omega) (by simpa using hy)) (fun y hy => h2 y (by simpa using hy))
    unfold lowE at ih ⊢
    rw [List.takeWhile_cons, if_pos hx, List.length_cons, ih]
theorem low_le (xs : List Ent) (k : ByteArray) : lowE xs k ≤ xs.length := (List.takeWhile_prefix _).length_le
theorem low_before {k : ByteArray} : ∀ {xs : List Ent} {t : Nat} {x : Ent}, t < lowE xs k → xs[t]? = some x → lessB x.name k = true
  | [], _, _, h, _ => by simp [lowE] at h
  | y :: xs, t, x, h, hx => by
    unfold lowE at h
    rw [List.takeWhile_cons] at h
    split at h
    · rename_i hy
      cases t with
      | zero => rw [← Option.some.inj hx]; exact hy
      | succ t => exact low_before (xs := xs) (t := t) (by unfold lowE; simpa using h) (by simpa using hx)
    · simp at h
theorem low_at {k : ByteArray} : ∀ {xs : List Ent} {x : Ent}, xs[lowE xs k]? = some x → lessB x.name k = false
  | [], _, hx => by simp at hx
  | y :: xs, x, hx => by
    cases hy : lessB y.name k with
    | true =>
      have e : lowE (y :: xs) k = lowE xs k + 1 := by
        unfold lowE
        rw [List.takeWhile_cons, if_pos hy, List.length_cons]
      rw [e] at hx
      exact low_at (xs := xs) (by simpa using hx)
    | false =>
      have e : lowE (y :: xs) k = 0 := by
        unfold lowE
        rw [List.takeWhile_cons, hy]
        rfl
      rw [e] at hx
      rw [← Option.some.inj hx]
      exact hy

/-- What comparing two names answers. -/
def cmpI (a b : ByteArray) : Int := if lessB a b then -1 else if lessB b a then 1 else 0
theorem cmpI_neg (a b : ByteArray) : cmpI a b < 0 ↔ lessB a b = true := by
  unfold cmpI
  cases lessB a b <;> cases lessB b a <;> simp
theorem bytes_same {a b : ByteArray} (h : a.toList = b.toList) : a = b := by
  rw [Lib.toList_data, Lib.toList_data] at h
  exact bytes_ext h
theorem cmpI_zero (a b : ByteArray) : cmpI a b = 0 ↔ a = b := by
  unfold cmpI lessB
  constructor
  · intro h
    rcases less_or a.toList b.toList with h1 | h1 | h1
    · rw [h1] at h; simp at h
    · exact bytes_same h1
    · rw [h1] at h
      cases h2 : Op.bytesLess a.toList b.toList <;> rw [h2] at h <;> simp at h
  · rintro rfl
    rw [less_irr]
    rfl
/-- Is there an entry of that name? -/
def hasE (xs : List Ent) (k : ByteArray) : Bool := match xs[lowE xs k]? with
  | some x => decide (cmpI x.name k = 0)
  | none => false
def withE (xs : List Ent) (e : Ent) : List Ent := xs.take (lowE xs e.name) ++ [e] ++ xs.drop (lowE xs e.name + if hasE xs e.name then 1 else 0)
def withoutE (xs : List Ent) (k : ByteArray) : List Ent := xs.take (lowE xs k) ++ xs.drop (lowE xs k + 1)

theorem isNaNs_any (a : ByteArray) (w : World) : Calls Try.prog 138 #[.string a] w fun e w' => e = .returned (.bool false) ∧ w = w' := by
  go_enter Try.func138, Try.ntmps138
  go_wp2_with fail
  go_ret
  exact ⟨rfl, rfl⟩

set_option maxRecDepth 100000 in
theorem cmpS_any (a b : ByteArray) (w : World) : Calls Try.prog 128 #[.string a, .string b] w fun e w' => e = .returned (.int .i64 (cmpI a b)) ∧ w = w' := by
  cases h1 : lessB a b with
  | true =>
    have e : cmpI a b = -1 := by simp [cmpI, h1]
    rw [e]
    have h1' : Op.bytesLess a.toList b.toList = true := h1
    clear h1 e
    go_enter Try.func128, Try.ntmps128
    go_wp2_with (go_at_call 138; refine (isNaNs_any _ _).mono ?_; rintro e w' ⟨rfl, rfl⟩)
    go_ret
    exact ⟨rfl, rfl⟩
  | false =>
    have h1' : Op.bytesLess a.toList b.toList = false := h1
    cases h2 : lessB b a with
    | true =>
      have e : cmpI a b = 1 := by simp [cmpI, h1, h2]
      rw [e]
      have h3 : (a.toList == b.toList) = false := by
        rw [beq_eq_false_iff_ne]
        intro e
        have h2' : Op.bytesLess b.toList a.toList = true := h2
        rw [e, less_irr] at h2'
        cases h2'
      clear h1 h2 e
      go_enter Try.func128, Try.ntmps128
      go_wp2_with (go_at_call 138; refine (isNaNs_any _ _).mono ?_; rintro e w' ⟨rfl, rfl⟩)
      go_ret
      exact ⟨rfl, rfl⟩
    | false =>
      have e : cmpI a b = 0 := by simp [cmpI, h1, h2]
      obtain rfl := (cmpI_zero a b).1 e
      rw [e]
      clear h1 h2 e
      go_enter Try.func128, Try.ntmps128
      go_wp2_with (go_at_call 138; refine (isNaNs_any _ _).mono ?_; rintro e w' ⟨rfl, rfl⟩)
      go_ret
      exact ⟨rfl, rfl⟩

set_option maxRecDepth 100000 in
set_option maxHeartbeats 1000000 in
theorem placeBy_any (x : Ent) (k : ByteArray) (b : Nat) (w : World) (hb : b < w.heap.size) (hc : w.cell? ⟨b, 0, none⟩ = some (.func (.func 73) #[] #[])) :
    Calls Try.prog 127 #[.agg x.cells.toArray, .string k, .pointer (some ⟨b, 0, none⟩)] w fun e w' => e = .returned (.int .i64 (cmpI x.name k)) ∧ Below w.heap.size w w' := by
  obtain ⟨W1, hW1⟩ : ∃ W1, w.alloc (.cells x.cells.toArray 60) = W1 := ⟨_, rfl⟩
  have hB1 : Below w.heap.size w W1 := by rw [← hW1]; exact (Below.refl _ _).alloc (Nat.le_refl _) _
  have hH : Holds W1 w.heap.size 60 x.cells := by rw [← hW1]; exact Holds.new _ _ _
  have hR := hid (hold_range hH)
  have hc1 := (hB1.cell (p := ⟨b, 0, none⟩) hb).trans hc
  have hi1 : (Try.prog.info? 60).map (·.size) = some x.cells.length := by rw [Ent.len]; exact Try.infoEnt
  have hB1' := hid hB1
  have hW1' := hid hW1
  clear hB1 hH hc hW1
  go_enter Try.func127, Try.ntmps127
  go_wp2_with (first
    | ((with_reducible refine at_slot (some 3) ?_); refine wpList_run rfl (.pointer (some ⟨w.heap.size, 0, none⟩)) (w.alloc (.cells x.cells.toArray 60)) (by kernel_rfl) ?_; rw [hW1'.out])
    | ((with_reducible refine at_slot (some 7) ?_); refine wpList_load_mid rfl 60 (.tmp 3) rfl w.heap.size 0 rfl x.cells _ (by exact hR.out) Try.underlying60 rfl (by exact hi1) ?_)
    | fail)
  refine (nameOf_any x _).mono ?_
  rintro e W2 ⟨rfl, hb2⟩
  have hB2 := hid (hB1'.out.trans (hb2.mono hB1'.out.size))
  clear hb2 hc1
  go_wp2_with (go_at_call 128; refine (cmpS_any _ _ _).mono ?_; rintro e w' ⟨rfl, rfl⟩)
  go_ret
  exact ⟨rfl, hB2.out⟩

end Go.Proofs.Ytapegklffglnoaa
namespace Go.Proofs.Ytapegklffglnoaa
open Go.RowKit

def PlacePost (i : Nat) (f : Bool) (w : World) (e : Ending) (w' : World) : Prop := e = .returned (.tuple #[.int .i64 (i : Int), .bool f]) ∧ Below w.heap.size w w'

set_option maxRecDepth 100000 in
set_option maxHeartbeats 4000000 in
theorem searchE_any (A : Option Addr) (n c B b : Nat) (xs : List Ent) (k : ByteArray) (w : World) (h : Ents w B A n xs) (hB : B ≤ w.heap.size) (hn : n ≤ 1000000) (hr : RisesE xs.length xs) (hb : b < w.heap.size) (hc : w.cell? ⟨b, 0, none⟩ = some (.func (.func 73) #[] #[])) :
    Calls Try.prog 126 #[.slice A n c, .string k, .func (.func 127) #[] #[.pointer (some ⟨b, 0, none⟩)]] w (PlacePost (lowE xs k) (hasE xs k) w) := by
  obtain ⟨L, hL⟩ : ∃ L, lowE xs k = L := ⟨_, rfl⟩
  obtain ⟨F, hF⟩ : ∃ F, hasE xs k = F := ⟨_, rfl⟩
  rw [hL, hF]
  have hlen := h.1
  have h' := hid h
  have hr' := hid hr
  have hL' := hid hL
  have hF' := hid hF
  have hcmp := hid (fun (W : World) (hW : Below w.heap.size w W) (x : Ent) => placeBy_any x k b W (Nat.lt_of_lt_of_le hb hW.size) ((hW.cell (p := ⟨b, 0, none⟩) hb).trans hc))
  clear h hr hL hF hc
  go_enter Try.func126, Try.ntmps126
  go_wp2_with fail
  go_loopw [9, 10] (fun iv jv wr => ∃ i j : Nat, iv = .int .i64 (i : Int) ∧ jv = .int .i64 (j : Int) ∧ i ≤ j ∧ j ≤ n ∧ (∀ t x, t < i → xs[t]? = some x → lessB x.name k = true) ∧ (∀ t x, j ≤ t → xs[t]? = some x → lessB x.name k = false) ∧ Below w.heap.size w wr) (fun iv jv _ => (intOf jv).toNat - (intOf iv).toNat)
  case atStart => exact ⟨0, n, rfl, rfl, Nat.zero_le _, Nat.le_refl _, fun t x ht _ => by omega, fun t x ht hx => by have := (List.getElem?_eq_some_iff.1 hx).1; omega, Below.refl _ _⟩
  case round =>
    obtain ⟨i, j, rfl, rfl, hij, hjn, hlo, hhi, hBr⟩ := hrel
    have hlo' := hid hlo
    have hhi' := hid hhi
    have hBr' := hid hBr
    clear hlo hhi
    by_cases hlt : i < j
    · obtain ⟨m, hm⟩ : ∃ m, (i + j) / 2 = m := ⟨_, rfl⟩
      have hmi : i ≤ m := by omega
      have hmj : m < j := by omega
      obtain ⟨p, a, hpA, hpB, ha, hfa, hca⟩ := (h'.out.below (hBr.mono hB)).get (k := m) (by omega)
      subst hpA
      have hlt' : (i : Int) < (j : Int) := by omega
      have hi1 : (Try.prog.info? 60).map (·.size) = some a.cells.length := by rw [Ent.len]; exact Try.infoEnt
      have hca' := hid hca
      have ha' := hid ha
      have s1 := IntWalk.i64_in ((i : Int) + (j : Int)) (by omega)
      have s2 : IntKind.u64.wrap ((i : Int) + (j : Int)) = (i : Int) + (j : Int) := by show ((i : Int) + (j : Int)) % 18446744073709551616 = _; omega
      have s3 : IntKind.i64.wrap (m : Int) = (m : Int) := IntWalk.i64_in _ (by omega)
      have s4 : ((i : Int) + (j : Int)) / 2 = (m : Int) := by omega
      have s5 : (m : Int) < (n : Int) := by omega
      have s6 : (0 : Int) ≤ (m : Int) := by omega
      have hcm := hid (fun (W : World) (hW : Below w.heap.size w W) => hcmp.out W hW a)
      clear hBr hca ha hm
      go_wp2_with (first
        | ((with_reducible refine at_slot (some 28) ?_); refine wpList_load_any rfl _ _ rfl _ rfl _ _ (by exact hca'.out) Try.underlying60 rfl hi1 ?_)
        | fail)
      refine (hcm.out wr hBr'.out).mono ?_
      rintro e W2 ⟨rfl, hb2⟩
      have hB2 := hid (hBr'.out.trans (hb2.mono hBr'.out.size))
      clear hb2
      obtain ⟨v, hv⟩ : ∃ v, cmpI a.name k = v := ⟨_, rfl⟩
      rw [hv]
      cases hab : lessB a.name k with
      | true =>
        have hv0 : v < 0 := by rw [← hv]; exact (cmpI_neg _ _).2 hab
        have s7 := IntWalk.i64_in ((m : Int) + 1) (by omega)
        have hlo2 := hid (show ∀ t x, t < m + 1 → xs[t]? = some x → lessB x.name k = true from fun t x ht hx => by
          by_cases e : t = m
          · subst e
            rw [ha'.out] at hx
            rw [← Option.some.inj hx]
            exact hab
          · exact less_trans _ _ _ (rises_up hr'.out (by omega : t < m) hx ha'.out) hab)
        clear hv hab hcm hcmp
        go_wp2_with fail
        go_roundw
        case rel => exact ⟨m + 1, j, by go_num, rfl, by omega, hjn, hlo2.out, hhi'.out, hB2.out⟩
        case measure => simp [intOf]; omega
      | false =>
        have hv0 : ¬ v < 0 := by
          rw [← hv, cmpI_neg, hab]
          decide
        have hhi2 := hid (show ∀ t x, m ≤ t → xs[t]? = some x → lessB x.name k = false from fun t x ht hx => by
          by_cases e : t = m
          · subst e
            rw [ha'.out] at hx
            rw [← Option.some.inj hx]
            exact hab
          · cases hx2 : lessB x.name k with
            | false => rfl
            | true =>
              have := less_trans _ _ _ (rises_up hr'.out (by omega : m < t) ha'.out hx) hx2
              rw [show Op.bytesLess a.name.toList k.toList = false from hab] at this
              cases this)
        clear hv hab hcm hcmp
        go_wp2_with fail
        go_roundw
        case rel => exact ⟨i, m, rfl, rfl, by omega, by omega, hlo'.out, hhi2.out, hB2.out⟩
        case measure => simp [intOf]; omega
    · obtain rfl : i = j := by omega
      have hlt' : ¬ (i : Int) < (i : Int) := by omega
      have hLi : lowE xs k = i := low_of (by omega) hlo'.out (fun x hx => hhi'.out i x (Nat.le_refl _) hx)
      obtain rfl : L = i := by rw [← hL'.out, hLi]
      by_cases hin : L < n
      · obtain ⟨p, a, hpA, hpB, ha, hfa, hca⟩ := (h'.out.below (hBr.mono hB)).get (k := L) hin
        subst hpA
        have hin' : (L : Int) < (n : Int) := by omega
        have hi1 : (Try.prog.info? 60).map (·.size) = some a.cells.length := by rw [Ent.len]; exact Try.infoEnt
        have hca' := hid hca
        have hFv := hid (show F = decide (cmpI a.name k = 0) from by
          rw [← hF'.out]
          unfold hasE
          rw [hLi, ha])
        have s6 : (0 : Int) ≤ (L : Int) := by omega
        have hcm := hid (hcmp.out wr hBr'.out a)
        clear hBr hca ha hLi hcmp
        go_wp2_with (first
          | ((with_reducible refine at_slot (some 44) ?_); refine wpList_load_any_on (by kernel_rfl) _ _ rfl _ rfl _ _ (by exact hca'.out) Try.underlying60 rfl hi1 ?_)
          | fail)
        refine hcm.out.mono ?_
        rintro e W2 ⟨rfl, hb2⟩
        have hB2 := hid (hBr'.out.trans (hb2.mono hBr'.out.size))
        have hFv' := hFv.out
        obtain ⟨v, hv⟩ : ∃ v, cmpI a.name k = v := ⟨_, rfl⟩
        rw [hv] at hFv'
        rw [hv]
        have hFw := hid hFv'
        clear hb2 hFv' hv hFv hcm
        go_wp2_with fail
        go_ret2
        exact ⟨by rw [hFw.out]; rfl, hB2.out⟩
      · have hin' : ¬ (L : Int) < (n : Int) := by omega
        have hFv := hid (show F = false from by
          rw [← hF'.out]
          unfold hasE
          rw [hLi, List.getElem?_eq_none (by omega)])
        clear hBr hLi hcmp
        go_wp2_with fail
        go_ret2
        exact ⟨by rw [hFv.out]; rfl, hBr'.out⟩

set_option maxRecDepth 100000 in
set_option maxHeartbeats 1000000 in
theorem placeE_any (A : Option Addr) (n c B : Nat) (xs : List Ent) (k : ByteArray) (w : World) (h : Ents w B A n xs) (hB : B ≤ w.heap.size) (hn : n ≤ 1000000) (hr : RisesE xs.length xs) :
    Calls Try.prog 110 #[.slice A n c, .func (.func 73) #[] #[], .string k] w (PlacePost (lowE xs k) (hasE xs k) w) := by
  have hb0 : Below w.heap.size w (w.alloc (.cells #[.func (.func 73) #[] #[]] 108)) := (Below.refl _ _).alloc (Nat.le_refl _) _
  have hS := hid (searchE_any A n c B w.heap.size xs k _ (h.below (hb0.mono hB)) (Nat.le_trans hB hb0.size) hn hr (by simp) (by simp))
  have hb0' := hid hb0
  clear h hb0 hr
  go_enter Try.func110, Try.ntmps110
  go_wp2_with fail
  refine hS.out.mono ?_
  rintro e W2 ⟨rfl, hb2⟩
  have hB2 := hid (hb0'.out.trans (hb2.mono hb0'.out.size))
  clear hb2
  go_wp2_with fail
  go_ret2
  exact ⟨rfl, hB2.out⟩

end Go.Proofs.Ytapegklffglnoaa
namespace Go.Proofs.Ytapegklffglnoaa
open Go.Shelf
def Try.laysGrow_ren : Go.Shelf.Ren := ⟨fun | 4 => 129 | n => n, fun | 22 => 36 | 25 => 60 | 3 => 3 | 4 => 4 | 9 => 9 | 20 => 20 | 0 => 0 | n => n, fun | n => n⟩
theorem Try.laysGrow : Go.Proofs.Lays8.n4 Try.prog Try.laysGrow_ren := {
  mixed := by kernel_rfl
  f4 := ⟨Try.f129.name, by decide, Try.func129.trans (congrArg some (by kernel_rfl))⟩
  t0 := Try.underlying0
  a0 := Try.isAgg0
  z0 := Try.sizeOf0
  v0 := Try.zeroValue0
  t3 := Try.underlying3
  a3 := Try.isAgg3
  z3 := Try.sizeOf3
  v3 := Try.zeroValue3
  t4 := Try.underlying4
  a4 := Try.isAgg4
  z4 := Try.sizeOf4
  v4 := Try.zeroValue4
  t9 := Try.underlying9
  a9 := Try.isAgg9
  z9 := Try.sizeOf9
  v9 := Try.zeroValue9
  t20 := Try.underlying20
  a20 := Try.isAgg20
  z20 := Try.sizeOf20
  v20 := Try.zeroValue20
  t22 := Try.underlying36
  a22 := Try.isAgg36
  z22 := Try.sizeOf36
  v22 := Try.zeroValue36 }
end Go.Proofs.Ytapegklffglnoaa
namespace Go.Proofs.Ytapegklffglnoaa
open Go.RowKit

/-- Where x[k:] begins. -/
def fromA (A : Option Addr) (c k sz : Nat) : Option Addr := if c = k then A else A.map (·.add (k * sz))
theorem run_sliceAt_lo {P : Program} (t e : TypeId) (i : TypeInfo) (A : Option Addr) (n c k sz : Nat) (hk : k ≤ n) (hnc : n ≤ c) (ht : P.underlying t = some (.slice e)) (hi : P.info? e = some i) (hs : i.size = sz) (w : World) :
    (Instr.sliceAt t (.slice A n c) (some (.int .i64 (k : Int))) none none).run P w = .ok (.slice (fromA A c k sz) (n - k) (c - k)) w := by
  have h1 : (k : Int) ≤ (n : Int) := by omega
  subst hs
  simp [Instr.sliceAt, run_underlying ht, Instr.slice, Instr.sliceBounds, Instr.sliceBound, asIntOf, sizeOf, typeInfo, hi, hk, fromA]
theorem run_sliceAt_hi {P : Program} (t e : TypeId) (i : TypeInfo) (A : Option Addr) (n c k : Nat) (hk : k ≤ c) (ht : P.underlying t = some (.slice e)) (hi : P.info? e = some i) (w : World) :
    (Instr.sliceAt t (.slice A n c) none (some (.int .i64 (k : Int))) none).run P w = .ok (.slice A k c) w := by
  have h1 : (k : Int) ≤ (c : Int) := by omega
  have h2 : ∀ p : Addr, p.add 0 = p := fun p => by simp [Addr.add]
  simp [Instr.sliceAt, run_underlying ht, Instr.slice, Instr.sliceBounds, Instr.sliceBound, asIntOf, sizeOf, typeInfo, hi, hk, h2]
theorem wpList_sliceLo {P : Program} {ops : Array Oper} {rest : List Oper} {o : Oper} {a : Act} {w : World} {Q : Exit → Act → World → Prop} (hgd : o.guard = none) (t e : TypeId) (i : TypeInfo) (x lo : Operand) (ho : o.op = .slice t x (some lo) none none) (A : Option Addr) (n c k sz : Nat) (hx : a.eval x = .slice A n c) (hlo : a.eval lo = .int .i64 (k : Int)) (hk : k ≤ n) (hnc : n ≤ c) (ht : P.underlying t = some (.slice e)) (hi : P.info? e = some i) (hs : i.size = sz)
    (h : wpList P ops Q rest (a.put o.dst (.slice (fromA A c k sz) (n - k) (c - k))) w) : wpList P ops Q (o :: rest) a w :=
  wpList_run hgd _ _ (by
    unfold execOp
    simp only [ho, hx, hlo, Option.map, Sem.run_bind, run_sliceAt_lo t e i A n c k sz hk hnc ht hi hs w, Result.andThen_ok, Sem.run_pure]) h
theorem yieldsIf_sliceLo {P : Program} {ops : Array Oper} {S : World → Prop} {o : Oper} {a : Act} (hgd : o.guard = none) (t e : TypeId) (i : TypeInfo) (x lo : Operand) (ho : o.op = .slice t x (some lo) none none) (A : Option Addr) (n c k sz : Nat) (hx : a.eval x = .slice A n c) (hlo : a.eval lo = .int .i64 (k : Int)) (hk : k ≤ n) (hnc : n ≤ c) (ht : P.underlying t = some (.slice e)) (hi : P.info? e = some i) (hs : i.size = sz) :
    YieldsIf P ops S o (.slice (fromA A c k sz) (n - k) (c - k)) a :=
  .inl ⟨by simp [Region.wanted, hgd], fun w _ => by
    unfold execOp
    simp only [ho, hx, hlo, Option.map, Sem.run_bind, run_sliceAt_lo t e i A n c k sz hk hnc ht hi hs w, Result.andThen_ok, Sem.run_pure]⟩
section
variable {w : World} {B sz n : Nat} {A : Option Addr} {cs : List Value}
theorem At.front (h : At w B sz A n cs) {k : Nat} (hk : k ≤ n) : At w B sz A k (cs.take (k * sz)) := by
  obtain ⟨h1, h2⟩ := h
  have hle : k * sz ≤ n * sz := Nat.mul_le_mul_right _ hk
  refine ⟨by rw [List.length_take, h1]; omega, ?_⟩
  by_cases e : k = 0
  · exact .inl e
  · rcases h2 with h2 | ⟨p, hA, hB, hc⟩
    · omega
    · refine .inr ⟨p, hA, hB, fun j hj => ?_⟩
      rw [List.length_take] at hj
      rw [hc j (by omega)]
      simp
theorem At.from_ (h : At w B sz A n cs) {k c : Nat} (hk : k ≤ n) (hc : n ≤ c) : At w B sz (fromA A c k sz) (n - k) (cs.drop (k * sz)) := by
  obtain ⟨h1, h2⟩ := h
  refine ⟨by rw [List.length_drop, h1, Nat.sub_mul], ?_⟩
  by_cases e : n - k = 0
  · exact .inl e
  · rcases h2 with h2 | ⟨p, hA, hB, hcl⟩
    · omega
    · refine .inr ⟨p.add (k * sz), ?_, by rw [add_block]; exact hB, fun j hj => ?_⟩
      · unfold fromA
        rw [if_neg (by omega), hA]
        rfl
      · rw [List.length_drop] at hj
        rw [add_add, hcl (k * sz + j) (by omega)]
        simp
end
end Go.Proofs.Ytapegklffglnoaa
namespace Go.Proofs.Ytapegklffglnoaa
open Go.RowKit

theorem growE_any (n : Nat) (hn : n ≤ 1000000) (w : World) :
    Calls Try.prog 129 #[.slice none 0 0, .int .i64 (n : Int)] w fun e w' => ∃ A c, e = .returned (.slice A 0 c) ∧ w'.ownsRow w.heap.size 60 3 (.slice A 0 c) 0 [] ∧ Below w.heap.size w w' := by
  by_cases h0 : n = 0
  · subst h0
    refine (Any8.slices_Grow_room Try.laysGrow none 0 0 0 w (Nat.le_refl _) (by decide) (by decide) (Nat.le_refl _)).mono ?_
    rintro e w' ⟨rfl, rfl⟩
    exact ⟨none, 0, rfl, World.ownsRow_nil _ _ _ _, Below.refl _ _⟩
  · obtain ⟨i0, hi, hz0, hz1, hz2⟩ := info_parts Try.infoEntI
    refine (Any8.slices_Grow_grow Try.laysGrow i0 _ hi hz0 (by rw [hz1]; decide) none 0 0 n [] w (Nat.le_refl _) (by omega) (by rw [hz2]; omega) (by omega) (by simp) (fun _ => rfl) (fun a h => by cases h)).mono ?_
    rintro e w' ⟨rfl, rfl⟩
    have hm := grownCap_le_maxLen w (0 + n) 0 60 (by unfold maxLen; omega)
    have hge := grownCap_ge w (0 + n) 0 60
    obtain ⟨cur, hcur⟩ : ∃ cur, (([] : List Value).toArray ++ Builtin.zeroCells (Value.agg #[Value.string ByteArray.empty, Value.int IntKind.i64 0, Value.int IntKind.i64 0]).cells (0 + n - 0) ++ Builtin.zeroCells (Value.agg #[Value.string ByteArray.empty, Value.int IntKind.i64 0, Value.int IntKind.i64 0]).cells (grownCap w (0 + n) 0 60 - (0 + n))) = cur := ⟨_, rfl⟩
    have hsz : cur.size = grownCap w (0 + n) 0 60 * 3 := by
      rw [← hcur]
      simp [Builtin.zeroCells, Value.cells]
      rw [Nat.zero_add] at hge
      omega
    refine ⟨some ⟨w.heap.size, 0, none⟩, _, rfl, ⟨rfl, .inr ⟨w.heap.size, _, cur, rfl, Nat.le_refl _, ?_, Nat.zero_le _, hm, hsz, rfl⟩⟩, (((Below.refl w.heap.size w).drew).alloc (Nat.le_refl _) _)⟩
    rw [← hcur]
    exact heap_at w.drew _ _ rfl

/-- A part that is joined: where it stands, how long it is, its cells. -/
structure Part where
  A : Option Addr
  n : Nat
  c : Nat
  cs : List Value
def Part.v (q : Part) : Value := .slice q.A q.n q.c
def Part.at_ (w : World) (B : Nat) (q : Part) : Prop := At w B 3 q.A q.n q.cs ∧ (q.A = none → q.c = 0) ∧ q.n ≤ 1000 ∧ ∀ u ∈ q.cs, u.oneCell' = true
def sumP (ps : List Part) : Nat := (ps.map Part.n).sum
def cellsP (ps : List Part) : List Value := ps.flatMap Part.cs
theorem sumP_next {ps : List Part} {k : Nat} {q : Part} (h : ps[k]? = some q) : sumP (ps.take (k + 1)) = sumP (ps.take k) + q.n := by
  unfold sumP
  rw [List.take_add_one, h]
  simp
theorem cellsP_next {ps : List Part} {k : Nat} {q : Part} (h : ps[k]? = some q) : cellsP (ps.take (k + 1)) = cellsP (ps.take k) ++ q.cs := by
  unfold cellsP
  rw [List.take_add_one, h]
  simp
theorem sumP_le {w : World} {B : Nat} : ∀ {ps : List Part}, (∀ q ∈ ps, q.at_ w B) → sumP ps ≤ 1000 * ps.length
  | [], _ => Nat.le_refl _
  | q :: ps, h => by
    have h1 := sumP_le (ps := ps) fun y hy => h y (List.mem_cons_of_mem _ hy)
    have h2 := (h q (List.mem_cons_self ..)).2.2.1
    unfold sumP at h1 ⊢
    rw [List.map_cons, List.sum_cons, List.length_cons]
    omega
theorem Part.below {w w' : World} {B : Nat} {q : Part} (h : q.at_ w B) (hb : Below B w w') : q.at_ w' B := ⟨h.1.below hb, h.2⟩

set_option maxRecDepth 100000 in
set_option maxHeartbeats 4000000 in
theorem concatE_any (g m : Nat) (ps : List Part) (w : World) (hg : Holds w g 36 (ps.map Part.v)) (hm : ps.length = m) (hm9 : m ≤ 9) (hps : ∀ q ∈ ps, q.at_ w w.heap.size) :
    Calls Try.prog 111 #[.slice (some ⟨g, 0, none⟩) m m] w fun e w' => ∃ A c, e = .returned (.slice A (sumP ps) c) ∧ w'.ownsRow w.heap.size 60 3 (.slice A (sumP ps) c) (sumP ps) (cellsP ps) ∧ Below w.heap.size w w' := by
  obtain ⟨i0, hi, hz0, hz1, hz2⟩ := info_parts Try.infoEntI
  obtain ⟨S, hS⟩ : ∃ S, sumP ps = S := ⟨_, rfl⟩
  have hS9 : S ≤ 9000 := by rw [← hS]; have := sumP_le hps; omega
  rw [hS]
  have hS' := hid hS
  have hglt := hg.lt
  have hps' := hid hps
  have hG := hid (fun W (hW : Below w.heap.size w W) => hg.below hW hglt)
  have hcell := hid (fun (W : World) (hW : Below w.heap.size w W) (k : Nat) (q : Part) (hk : ps[k]? = some q) => show W.cell? ⟨g, k, none⟩ = some (.slice q.A q.n q.c) from by
    rw [(hg.below hW hglt).cell, List.getElem?_map, hk]
    rfl)
  have hgr := hid (fun W => growE_any S (by omega) W)
  clear hS hg hps
  go_enter Try.func111, Try.ntmps111
  go_wp2_with fail
  go_loopw [3, 11] (fun s i wr => ∃ k : Nat, k ≤ m ∧ i = .int .i64 (k : Int) ∧ s = .int .i64 ((sumP (ps.take k) : Nat) : Int) ∧ w = wr) (fun _ i _ => m - (intOf i).toNat)
  case atStart => exact ⟨0, Nat.zero_le _, rfl, rfl, rfl⟩
  case round =>
    obtain ⟨k, hk, rfl, rfl, rfl⟩ := hrel
    by_cases hlt : k < m
    · obtain ⟨q, hq⟩ : ∃ q, ps[k]? = some q := ⟨_, List.getElem?_eq_getElem (by omega)⟩
      have hlt' : (k : Int) < (m : Int) := by omega
      have hc := hcell.out w (Below.refl _ _) k q hq
      have hq9 := (hps'.out q (List.mem_of_getElem? hq)).2.2.1
      have hnx := hid (sumP_next hq)
      obtain ⟨T, hT⟩ : ∃ T, sumP (ps.take k) = T := ⟨_, rfl⟩
      have hT9 : T ≤ 9000 := by
        rw [← hT]
        have := sumP_le (ps := ps.take k) fun y hy => hps'.out y (List.mem_of_mem_take hy)
        rw [List.length_take] at this
        omega
      have hT' := hid hT
      have s1 := IntWalk.i64_in ((T : Int) + (q.n : Int)) (by omega)
      have s2 : ¬ (T : Int) + (q.n : Int) < 0 := by omega
      have s3 : (0 : Int) ≤ (k : Int) := by omega
      rw [hT]
      clear hT hq
      go_wp2_with fail
      go_roundw
      case rel => exact ⟨k + 1, by omega, by go_num, by rw [hnx.out, hT'.out]; go_num, by first | rfl | trivial⟩
      case measure => simp [intOf]; omega
    · have hlt' : ¬ (k : Int) < (m : Int) := by omega
      obtain rfl : k = m := by omega
      rw [show ps.take k = ps from by rw [← hm, List.take_length], hS'.out]
      have hm' := hid hm
      clear hm
      go_wp2_with fail
      refine (hgr.out w).mono ?_
      rintro e W1 ⟨A1, c1, rfl, hrow1, hb1⟩
      have hrow1' := hid hrow1
      have hb1' := hid hb1
      clear hrow1 hb1
      go_wp2_with fail
      go_loopw [6, 27] (fun v i wr => ∃ (j : Nat) (A : Option Addr) (c : Nat), j ≤ k ∧ i = .int .i64 (j : Int) ∧ v = .slice A (sumP (ps.take j)) c ∧ wr.ownsRow w.heap.size 60 3 (.slice A (sumP (ps.take j)) c) (sumP (ps.take j)) (cellsP (ps.take j)) ∧ Below w.heap.size w wr) (fun _ i _ => k - (intOf i).toNat)
      case atStart => exact ⟨0, A1, c1, Nat.zero_le _, rfl, rfl, hrow1'.out, hb1'.out⟩
      case round =>
        obtain ⟨j, A, c, hj, rfl, rfl, hown, hBr⟩ := hrel
        have hown' := hid hown
        have hBr' := hid hBr
        clear hown
        by_cases hjl : j < k
        · obtain ⟨q, hq⟩ : ∃ q, ps[j]? = some q := ⟨_, List.getElem?_eq_getElem (by have := hm'.out; omega)⟩
          have hjl' : (j : Int) < (k : Int) := by omega
          have hc := hcell.out wr hBr j q hq
          have hqa := Part.below (hps'.out q (List.mem_of_getElem? hq)) hBr
          obtain ⟨q1, q2, q3, q4⟩ := hqa
          have q1' := hid q1
          have q2' := hid q2
          have q4' := hid q4
          have hnx := hid (sumP_next hq)
          have hnc := hid (cellsP_next hq)
          obtain ⟨T, hT⟩ : ∃ T, sumP (ps.take j) = T := ⟨_, rfl⟩
          have hT9 : T ≤ 9000 := by
            rw [← hT]
            have := sumP_le (ps := ps.take j) fun y hy => hps'.out y (List.mem_of_mem_take hy)
            rw [List.length_take] at this
            have := hm'.out
            omega
          have hT' := hid hT
          rw [hT]
          have hown2 := hown'.out
          rw [hT] at hown2
          have hown2' := hid hown2
          have s3 : (0 : Int) ≤ (j : Int) := by omega
          clear hT hq hBr q1 q2 q4 hown2 hown'
          go_wp2_with (first
            | (at_builtin; refine wpList_appends rfl (.tmp 31) (.tmp 32) 36 60 rfl w.heap.size i0 _ 3 32 Try.underlying36 hi hz0 hz1 hz2 (by decide) (by decide) A T c (cellsP (ps.take j)) w.heap.size q.A q.n q.c q.cs rfl rfl (by exact q2'.out) (by exact q4'.out) (by omega) (by omega) (by exact hown2'.out) (by exact q1'.out) (by exact hBr'.out.size) ?_; intro A2 c2 w3 hrow hb3 _; have hrow' := hid hrow; have hb3' := hid (hBr'.out.trans hb3); clear hrow hb3)
            | fail)
          go_roundw
          case rel => exact ⟨j + 1, A2, c2, by omega, by go_num, by rw [hnx.out, hT'.out], by rw [hnx.out, hT'.out, hnc.out]; exact hrow'.out, hb3'.out⟩
          case measure => simp [intOf]; omega
        · have hjl' : ¬ (j : Int) < (k : Int) := by omega
          obtain rfl : j = k := by omega
          have hfin := hown'.out
          have hall : ps.take j = ps := by rw [← hm'.out, List.take_length]
          rw [hall, hS'.out] at hfin
          rw [hall, hS'.out]
          clear hall
          have hfin' := hid hfin
          clear hfin
          go_wp2_with fail
          go_ret
          exact ⟨A, c, rfl, hfin'.out, hBr'.out⟩

end Go.Proofs.Ytapegklffglnoaa
