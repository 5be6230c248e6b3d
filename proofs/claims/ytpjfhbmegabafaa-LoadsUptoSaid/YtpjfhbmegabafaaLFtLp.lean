/- Layer 12: what a load answers, plain; Load's three tests. -/
import Derived.Test.YtpjfhbmegabafaaLFtBe
import Derived.Test.YtpjfhbmegabafaaLFtGa
namespace Go.Proofs.Ytpjfhbmegabafaa
open Go.RowKit
attribute [local irreducible] Sha.compress Sha.blocks Sha.sha Sha.pad

section
variable {get : List UInt8 → Option ByteArray} {may : Nat → ByteArray → Bool}
/-- What lvl gathers, where nothing is wanting. -/
theorem lvl_all : ∀ (hs : List (List UInt8)) (i : Nat) (acc acc' : List ByteArray) (want want' : List (List UInt8)), lvl get may i hs acc want = some (acc', want') → want' = [] →
    want = [] ∧ ∃ l, acc' = acc ++ l ∧ l.length = hs.length ∧ ∀ j y, l[j]? = some y → ∃ x h, hs[j]? = some h ∧ get h = some x ∧ may (i + j) x = true ∧ y = insideT x
  | [], i, acc, acc', want, want', h, hw => by
    rw [lvl] at h
    injection h with h
    injection h with h1 h2
    subst h1 h2
    exact ⟨hw, [], by simp, rfl, fun j y hy => by simp at hy⟩
  | h :: hs, i, acc, acc', want, want', he, hw => by
    cases hg : get h with
    | none =>
      rw [lvl_want hg] at he
      have := (lvl_all hs (i + 1) acc acc' _ _ he hw).1
      simp at this
    | some x =>
      cases hm : may i x with
      | false => rw [lvl_bad hg hm] at he; cases he
      | true =>
        rw [lvl_in hg hm] at he
        obtain ⟨h1, l, h2, h3, h4⟩ := lvl_all hs (i + 1) _ acc' _ _ he hw
        refine ⟨h1, insideT x :: l, by rw [h2]; simp, by simp [h3], fun j y hy => ?_⟩
        cases j with
        | zero => exact ⟨x, h, rfl, hg, by simpa using hm, by simpa using hy.symm⟩
        | succ j =>
          obtain ⟨x2, hh, e1, e2, e3, e4⟩ := h4 j y (by simpa using hy)
          exact ⟨x2, hh, by simpa using e1, e2, by rw [show i + (j + 1) = i + 1 + j from by omega]; exact e3, e4⟩
end
theorem first_of {x : ByteArray} {m : UInt8} {r : List UInt8} (h : ((x.extract 0 2).toList == m :: r) = true) : ∃ l, x.data.toList = m :: l := by
  have h := eq_of_beq h
  rw [Lib.toList_data, ByteArray.data_extract, Array.toList_extract] at h
  cases hl : x.data.toList with
  | nil => rw [hl] at h; simp at h
  | cons c l =>
    rw [hl] at h
    simp at h
    exact ⟨l, by rw [h.1]⟩
theorem extract_one {x : ByteArray} {m : UInt8} {l : List UInt8} (h : x.data.toList = m :: l) : x.extract 0 1 = ⟨#[m]⟩ := by
  apply ByteArray.ext
  apply Array.toList_inj.1
  rw [ByteArray.data_extract, Array.toList_extract, h]
  simp
theorem node_ok {x : ByteArray} {m : UInt8} {n : Nat} (hm : m ≠ 66) (h : isNodeT x ⟨#[m]⟩ n = true) : InsOk x ∧ (insideT x).size = n * 32 := by
  unfold isNodeT at h
  rw [Bool.and_eq_true, decide_eq_true_eq] at h
  have e : ((⟨#[m]⟩ : ByteArray) ++ be 1 n).toList = m :: (be 1 n).toList := by
    rw [Lib.toList_data, Lib.toList_data, ByteArray.data_append, Array.toList_append]
    rfl
  rw [e] at h
  obtain ⟨l, hl⟩ := first_of h.2
  have h1 := extract_one hl
  have h2 : x.extract 0 1 ≠ ⟨#[66]⟩ := by
    rw [h1]
    intro e
    have := congrArg (fun b : ByteArray => b.data.toList) e
    simp at this
    exact hm this
  refine ⟨.inr ⟨by omega, h2⟩, ?_⟩
  unfold insideT
  rw [if_neg h2, ByteArray.size_extract]
  omega
theorem blk_ok {x : ByteArray} {n : Nat} (h : isBlkT x n = true) : InsOk x ∧ (insideT x).size = n := by
  unfold isBlkT at h
  rw [Bool.and_eq_true, decide_eq_true_eq] at h
  have h2 : x.extract 0 1 = ⟨#[66]⟩ := by
    apply ByteArray.ext
    apply Array.toList_inj.1
    have := eq_of_beq h.2
    rw [Lib.toList_data] at this
    rw [this]
  refine ⟨.inl ⟨by omega, h2⟩, ?_⟩
  unfold insideT
  rw [if_pos h2, ByteArray.size_extract]
  omega
/-- A hash as a text. -/
def hashB (h : List UInt8) : ByteArray := ⟨h.toArray⟩
theorem hashB_size {h : List UInt8} (h32 : h.length = 32) : (hashB h).size = 32 := by show h.toArray.size = 32; rw [List.size_toArray, h32]
theorem pcsL_hash {h : List UInt8} (h32 : h.length = 32) : pcsL [hashB h] = [h] := by
  unfold pcsL pcs
  rw [List.flatMap_cons, List.flatMap_nil, List.append_nil, hashB_size h32, show cutN 32 32 = 1 from rfl]
  show [pc (hashB h) 0] = [h]
  unfold pc hashB
  simp
  rw [List.take_of_length_le (by omega)]
def mayR (fans : Nat) (_ : Nat) (x : ByteArray) : Bool := isNodeT x ⟨#[82]⟩ fans
def mayI (blocks : Nat) (i : Nat) (x : ByteArray) : Bool := isNodeT x ⟨#[73]⟩ (min 8 (blocks - i * 8))
def mayB (size : Nat) (i : Nat) (x : ByteArray) : Bool := isBlkT x (min 64 (size - i * 64))
/-- How many hashes stand in rows that are as they must be. -/
theorem rows_len {get : List UInt8 → Option ByteArray} {hs : List (List UInt8)} {acc : List ByteArray} {blocks : Nat} (h : lvl get (mayI blocks) 0 hs [] [] = some (acc, [])) (hl : hs.length = cutN 8 blocks) : (pcsL acc).length = blocks ∧ (∀ x ∈ acc, x.size % 32 = 0 ∧ x.size ≤ 256) ∧ acc.length = hs.length := by
  obtain ⟨-, l, h1, h2, h3⟩ := lvl_all hs 0 [] acc [] [] h rfl
  rw [List.nil_append] at h1
  subst h1
  have hsz : ∀ j y, acc[j]? = some y → y.size = min 8 (blocks - j * 8) * 32 := fun j y hy => by
    obtain ⟨x, hh, _, _, e1, e2⟩ := h3 j y hy
    rw [Nat.zero_add] at e1
    rw [e2]
    exact (node_ok (by decide) e1).2
  refine ⟨?_, fun x hx => ?_, h2⟩
  · rw [← offL_all (n := acc.length) rfl]
    have key : ∀ k, k ≤ acc.length → offL acc k = min blocks (k * 8) := fun k => by
      induction k with
      | zero => intro _; rw [show offL acc 0 = 0 from rfl]; omega
      | succ k ih =>
        intro hk
        have hk2 := List.getElem?_eq_getElem (l := acc) (i := k) (by omega)
        rw [offL_next hk2, hsz k _ hk2, ih (by omega)]
        have : cutN 32 (min 8 (blocks - k * 8) * 32) = min 8 (blocks - k * 8) := by unfold cutN; omega
        rw [this]
        omega
    rw [key _ (Nat.le_refl _), h2, hl]
    unfold cutN
    omega
  · obtain ⟨j, hj⟩ := List.mem_iff_getElem?.1 hx
    have := hsz j x hj
    omega
theorem rootrow_len {get : List UInt8 → Option ByteArray} {root : List UInt8} {acc : List ByteArray} {fans : Nat} (hf : fans ≤ 8) (h : lvl get (mayR fans) 0 [root] [] [] = some (acc, [])) : (pcsL acc).length = fans ∧ (∀ x ∈ acc, x.size % 32 = 0 ∧ x.size ≤ 256) ∧ acc.length = 1 := by
  obtain ⟨-, l, h1, h2, h3⟩ := lvl_all [root] 0 [] acc [] [] h rfl
  rw [List.nil_append] at h1
  subst h1
  obtain ⟨y, rfl⟩ : ∃ y, acc = [y] := List.length_eq_one_iff.1 (by simpa using h2)
  obtain ⟨x, hh, _, _, e1, e2⟩ := h3 0 y rfl
  have hy : y.size = fans * 32 := by rw [e2]; exact (node_ok (m := 82) (by decide) e1).2
  refine ⟨?_, (fun x hx => by rw [List.mem_singleton.1 hx]; omega), rfl⟩
  unfold pcsL
  rw [List.flatMap_cons, List.flatMap_nil, List.append_nil, pcs_len, hy]
  unfold cutN
  omega
theorem blks_len {get : List UInt8 → Option ByteArray} {hs : List (List UInt8)} {acc : List ByteArray} {size : Nat} (h : lvl get (mayB size) 0 hs [] [] = some (acc, [])) : acc.length = hs.length ∧ ∀ x ∈ acc, x.size ≤ 64 := by
  obtain ⟨-, l, h1, h2, h3⟩ := lvl_all hs 0 [] acc [] [] h rfl
  rw [List.nil_append] at h1
  subst h1
  refine ⟨h2, fun y hy => ?_⟩
  obtain ⟨j, hj⟩ := List.mem_iff_getElem?.1 hy
  obtain ⟨x, hh, _, _, e1, e2⟩ := h3 j y hj
  rw [e2, (blk_ok e1).2]
  omega
/-- The bytes of texts, one behind the other. -/
def catT (xs : List ByteArray) : ByteArray := ⟨((xs.map (·.data.toList)).flatten).toArray⟩
/-- What Load answers: none: it may not be; bytes; or what is wanting. -/
noncomputable def loadT (get : List UInt8 → Option ByteArray) (root : List UInt8) (size : Nat) : Option (ByteArray × List (List UInt8)) :=
  match lvl get (mayR (cutN 8 (cutN 64 size))) 0 [root] [] [] with
  | none => none
  | some (a, w) => if w = [] then (match lvl get (mayI (cutN 64 size)) 0 (pcsL a) [] [] with
    | none => none
    | some (b, v) => if v = [] then (match lvl get (mayB size) 0 (pcsL b) [] [] with
      | none => none
      | some (c, u) => if u = [] then some (catT c, []) else some (⟨#[]⟩, unlikeH u)) else some (⟨#[]⟩, unlikeH v)) else some (⟨#[]⟩, unlikeH w)
def LoadPost (w : World) (T : Option (ByteArray × List (List UInt8))) (e : Ending) (w' : World) : Prop := match T with
  | none => e = .returned (.tuple #[.string ⟨#[]⟩, .slice none 0 0, .int .i64 1200])
  | some (d, want) => if want = [] then e = .returned (.tuple #[.string d, .slice none 0 0, .int .i64 0])
    else ∃ A' m c', e = .returned (.tuple #[.string ⟨#[]⟩, .slice A' m c', .int .i64 1201]) ∧ w'.ownsRow 0 33 32 (.slice A' m c') m (hashCells want) ∧ ∀ k, (Value.slice A' m c').ownBlock = some k → w.heap.size ≤ k
theorem unlikeH_ne {xs : List (List UInt8)} (h : xs ≠ []) : unlikeH xs ≠ [] := by
  cases xs with
  | nil => exact absurd rfl h
  | cons x xs =>
    have key : ∀ (xs acc : List (List UInt8)), acc ≠ [] → xs.foldl addH acc ≠ [] := fun xs => by
      induction xs with
      | nil => exact fun acc h => h
      | cons x xs ih =>
        intro acc h
        refine ih _ (fun e => ?_)
        by_cases hx : x ∈ acc
        · rw [addH_old hx] at e; exact h e
        · rw [addH_new hx] at e; simp at e
    exact key xs _ (by rw [addH_new (List.not_mem_nil)]; simp)

set_option maxRecDepth 100000 in
theorem l1_any (V : World) (q n i : Nat) (x : ByteArray) (hn : n ≤ 255) (hc : V.cell? ⟨q, 0, none⟩ = some (.int .i64 (n : Int))) : Calls Try.prog 51 #[.int .i64 (i : Int), .string x, .pointer (some ⟨q, 0, none⟩)] V fun e V' => e = .returned (.bool (mayR n i x)) ∧ Below V.heap.size V V' := by
  have hI := hid (isNode_any x ⟨#[82]⟩ n hn rfl V)
  go_enter Try.func51, Try.ntmps51
  go_wp2_with fail
  refine hI.out.mono ?_
  rintro e W ⟨rfl, hb⟩
  have hb' := hid hb
  clear hb
  go_wp2_with fail
  go_ret
  exact ⟨rfl, hb'.out⟩
set_option maxRecDepth 100000 in
theorem l2_any (V : World) (q n i : Nat) (x : ByteArray) (hn : n ≤ 100) (hi : i * 8 < n) (hc : V.cell? ⟨q, 0, none⟩ = some (.int .i64 (n : Int))) : Calls Try.prog 53 #[.int .i64 (i : Int), .string x, .pointer (some ⟨q, 0, none⟩)] V fun e V' => e = .returned (.bool (mayI n i x)) ∧ Below V.heap.size V V' := by
  obtain ⟨k, hk⟩ : ∃ k, min 8 (n - i * 8) = k := ⟨_, rfl⟩
  have hI := hid (isNode_any x ⟨#[73]⟩ k (by omega) rfl V)
  have u1 := IntWalk.i64_in ((i : Int) * 8) (by omega)
  have u2 := IntWalk.i64_in ((n : Int) - (i : Int) * 8) (by omega)
  have u3 : min (8 : Int) ((n : Int) - (i : Int) * 8) = (k : Int) := by omega
  have hm := hid (show mayI n i x = isNodeT x ⟨#[73]⟩ k from by unfold mayI; rw [hk])
  rw [hm.out]
  clear hk hi
  go_enter Try.func53, Try.ntmps53
  go_wp2_with fail
  refine hI.out.mono ?_
  rintro e W ⟨rfl, hb⟩
  have hb' := hid hb
  clear hb
  go_wp2_with fail
  go_ret
  exact ⟨rfl, hb'.out⟩
set_option maxRecDepth 100000 in
theorem l3_any (V : World) (q n i : Nat) (x : ByteArray) (hn : n ≤ 4096) (hi : i * 64 < n) (hc : V.cell? ⟨q, 0, none⟩ = some (.int .i64 (n : Int))) : Calls Try.prog 54 #[.int .i64 (i : Int), .string x, .pointer (some ⟨q, 0, none⟩)] V fun e V' => e = .returned (.bool (mayB n i x)) ∧ Below V.heap.size V V' := by
  obtain ⟨k, hk⟩ : ∃ k, min 64 (n - i * 64) = k := ⟨_, rfl⟩
  have hI := hid (isBlock_any x k (by omega) V)
  have u1 := IntWalk.i64_in ((i : Int) * 64) (by omega)
  have u2 := IntWalk.i64_in ((n : Int) - (i : Int) * 64) (by omega)
  have u3 : min (64 : Int) ((n : Int) - (i : Int) * 64) = (k : Int) := by omega
  have hm := hid (show mayB n i x = isBlkT x k from by unfold mayB; rw [hk])
  rw [hm.out]
  clear hk hi
  go_enter Try.func54, Try.ntmps54
  go_wp2_with fail
  refine hI.out.mono ?_
  rintro e W ⟨rfl, hw⟩
  obtain rfl := hw.symm
  go_wp2_with fail
  go_ret
  exact ⟨rfl, Below.refl _ _⟩

end Go.Proofs.Ytpjfhbmegabafaa
