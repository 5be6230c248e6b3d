/- Texts that a statement is handed: a []string.
   A list of texts is no longer than its bulk.
   Lists of texts compared (folder almonrylaw0).
   Lists of texts that are lent with marked room behind them (folder almonrylaw0). -/
import Derived.Test.YtpjfhbmegabafaaRows
import Derived.Test.YtpjfhbmegabafaaLApFr
import Derived.ChangeArms
import Derived.OpenShut
import Derived.DataReads
import Derived.Deep.Slices
import Derived.ProofKit
import Derived.ChangeOld
import Derived.SizedLaws
import Derived.Deep.Quiet
namespace Go.Proofs.Ytpjfhbmegabafaa
open Go.RowKit

/-- The cells of a list of texts. -/
def strs (xs : List ByteArray) : List Value := xs.map Value.string

theorem strs_length (xs : List ByteArray) : (strs xs).length = xs.length := by simp [strs]
theorem strs_append (xs ys : List ByteArray) : strs (xs ++ ys) = strs xs ++ strs ys := by simp [strs]
theorem strs_one (xs : List ByteArray) : ∀ u ∈ strs xs, u.oneCell' = true := by
  intro u hu
  unfold strs at hu
  obtain ⟨x, _, rfl⟩ := List.mem_map.1 hu
  rfl

/-- The slice at A reads as these texts. -/
def Texts (w : World) (B : Nat) (A : Option Addr) (n : Nat) (xs : List ByteArray) : Prop := At w B 1 A n (strs xs)

section
variable {w w' : World} {B B' n : Nat} {A : Option Addr} {xs : List ByteArray}

theorem Texts.len (h : Texts w B A n xs) : xs.length = n := by
  have h' := At.len h
  rw [strs_length] at h'
  omega

theorem Texts.below (h : Texts w B A n xs) (hb : Below B w w') : Texts w' B A n xs := At.below h hb
theorem Texts.more (h : Texts w B A n xs) (hB : B ≤ B') : Texts w B' A n xs := At.more h hB
theorem Texts.drewN (h : Texts w B A n xs) (k : Nat) : Texts (w.drewN k) B A n xs := h
theorem Texts.drew (h : Texts w B A n xs) : Texts w.drew B A n xs := h
theorem Texts.alloc (h : Texts w B A n xs) (hB : B ≤ w.heap.size) (o : Obj) : Texts (w.alloc o) B A n xs := At.alloc h hB o

theorem Texts.get (h : Texts w B A n xs) {k : Nat} (hk : k < n) : ∃ p, A = some p ∧ p.block < B ∧ ∃ x, x ∈ xs ∧ xs[k]? = some x ∧ w.cell? (p.add k) = some (.string x) := by
  obtain ⟨p, v, hA, hB, hv, hc⟩ := At.get h hk
  have hl := h.len
  have hk' : k < xs.length := by omega
  refine ⟨p, hA, hB, xs[k], List.getElem_mem _, List.getElem?_eq_getElem hk', ?_⟩
  rw [hc, ← hv]
  simp [strs, List.getElem?_eq_getElem hk']

theorem Texts.front {ys : List ByteArray} {m : Nat} (h : Texts w B A (n + m) (xs ++ ys)) (hl : xs.length = n) : Texts w B A n xs := by
  subst hl
  obtain ⟨hlen, h0 | ⟨p, hp, hB, hc⟩⟩ := h
  · have e : xs = [] := List.eq_nil_of_length_eq_zero (by omega)
    subst e
    exact ⟨rfl, .inl rfl⟩
  · refine ⟨by rw [strs_length, Nat.mul_one], .inr ⟨p, hp, hB, fun j hj => ?_⟩⟩
    have hj2 : j < (strs (xs ++ ys)).length := by
      rw [strs_length] at hj ⊢
      simp
      omega
    rw [hc j hj2]
    simp [strs_append, List.getElem_append_left hj]
end

/-- Texts that came in: none is longer than a text may be, nor are they more than lie in memory. -/
def TextsIn (w : World) (A : Option Addr) (n c : Nat) (xs : List ByteArray) : Prop := Texts w w.heap.size A n xs ∧ n ≤ c ∧ n * 16 ≤ 140737488351232 ∧ (A = none → c = 0) ∧ ∀ s ∈ xs, s.size ≤ 140737488351232

section
variable {H : Type} {enc : TypeId × Value → H} {w : World} {base : Nat} {spare : Nat → Bool} {held : Bool}
open Go.ChangeShapes Go.WideShapes Go.Deep

theorem weights_all {P : Program} {e : TypeId} : ∀ {ds : List (DataW H)} {d : DataW H}, d ∈ ds → ∀ n ∈ d.weights P e, n ∈ DataW.weightsAll P e ds
  | d0 :: ds, d, hd, n, hn => by
    simp only [DataW.weightsAll, List.mem_append]
    rcases List.mem_cons.1 hd with rfl | hd
    · exact .inl hn
    · exact .inr (weights_all hd n hn)

theorem open_texts {fuel : Nat} {x : DataW H × List MemPlace} {A : Option Addr} {len cap : Nat} (h : DataW.trod enc Try.prog w base spare held fuel 50 [.slice A len cap] = some x) (hlt : ∀ y ∈ x.2, y.block < w.heap.size)
    (hw : ∀ k ∈ x.1.weights Try.prog 50, k ≤ reachBytes) : ∃ xs, TextsIn w A len cap xs := by
  have hC : Try.prog.cellsOf 9 = 1 := by kernel_rfl
  rcases open_slice1 Try.underlying50 hC h with ⟨hcs, _⟩ | ⟨a, l, c, m, n, V, D, Pl, hcs, hb, hl, hm, hmm, hx, hi⟩
  · simp at hcs
    obtain ⟨rfl, rfl, rfl⟩ := hcs
    exact ⟨[], ⟨rfl, .inl rfl⟩, Nat.le_refl _, Nat.zero_le _, (fun _ => rfl), (fun s hs => by cases hs)⟩
  · simp at hcs
    obtain ⟨rfl, rfl, rfl⟩ := hcs
    have hlm : len ≤ m := by
      rw [hmm]
      split
      · exact hl
      · exact Nat.le_refl _
    have hex : ∀ i, i < len → ∃ s : ByteArray, s.size ≤ 140737488351232 ∧ w.cell? (a.add i) = some (.string s) := by
      intro i hil
      obtain ⟨hc, ht⟩ := hi i (by omega)
      obtain ⟨s, hs, hd, _⟩ := DataW.trod_string Try.underlying9 ht
      refine ⟨s, ?_, by rw [hc]; exact congrArg some (by simpa using hs)⟩
      have hk := hw s.data.toList.length (by
        rw [hx]
        simp only [DataW.weights, Try.underlying50]
        refine List.mem_cons_of_mem _ (List.mem_append_left _ (weights_all (d := D i) (List.mem_map.2 ⟨i, List.mem_range.2 hil, rfl⟩) _ ?_))
        have hD : D i = .lit (.string s.data.toList) := (Prod.mk.inj hd).1
        rw [hD]
        simp [DataW.weights])
      rw [data_length] at hk
      unfold reachBytes at hk
      omega
    let g : Nat → ByteArray := fun i => if hil : i < len then Classical.choose (hex i hil) else ByteArray.empty
    have hg : ∀ i (hil : i < len), (g i).size ≤ 140737488351232 ∧ w.cell? (a.add i) = some (.string (g i)) := by
      intro i hil
      have : g i = Classical.choose (hex i hil) := by simp [g, hil]
      rw [this]
      exact Classical.choose_spec (hex i hil)
    have hm16 : len * 16 ≤ 140737488351232 := by
      have hby : Try.prog.bytesOf 9 = 16 := by kernel_rfl
      have hk := hw ((len + (m - len)) * 16) (by
        rw [hx]
        simp only [DataW.weights, Try.underlying50]
        refine List.mem_cons.2 (.inl ?_)
        simp [hby])
      unfold reachBytes at hk
      omega
    refine ⟨(List.range len).map g, ⟨by simp [strs], ?_⟩, hl, hm16, (fun h => by cases h), ?_⟩
    · rcases Nat.eq_zero_or_pos len with h0 | h0
      · exact .inl h0
      · refine .inr ⟨a, rfl, ?_, ?_⟩
        · have := hlt (.cell a.block a.off) (by
            rw [hx]
            exact List.mem_append_left _ (row_head a m (by omega)))
          exact this
        · intro i hi
          have hil : i < len := by simpa [strs] using hi
          simp only [strs, List.getElem_map, List.getElem_range]
          exact (hg i hil).2
    · intro b hb
      obtain ⟨i, hi, rfl⟩ := List.mem_map.1 hb
      exact (hg i (List.mem_range.1 hi)).1
end

end Go.Proofs.Ytpjfhbmegabafaa
namespace Go.Proofs.Ytpjfhbmegabafaa
open Go.RowKit
open Go.ChangeShapes Go.WideShapes Go.Deep
variable {H : Type} {enc : TypeId × Value → H} {w : World} {base : Nat} {spare : Nat → Bool} {held : Bool}

theorem bulk_one : ∀ d : DataW H, 1 ≤ Rows.uptoBulk d
  | .lit c => by cases c <;> simp [Rows.uptoBulk]
  | .nil => by simp [Rows.uptoBulk]
  | .ptr d => by simp [Rows.uptoBulk]
  | .slice _ _ => by simp [Rows.uptoBulk]
  | .agg _ => by simp [Rows.uptoBulk]
  | .iface _ _ => by simp [Rows.uptoBulk]
  | .map _ => by simp [Rows.uptoBulk]
  | .held _ => by simp [Rows.uptoBulk]
theorem bulk_len : ∀ l : List (DataW H), l.length ≤ Rows.uptoBulkAll l
  | [] => Nat.zero_le _
  | d :: r => by
    have h1 := bulk_one d
    have h2 := bulk_len r
    rw [Rows.uptoBulkAll, List.length_cons]
    omega
theorem bulk_mem : ∀ {l : List (DataW H)} {d : DataW H}, d ∈ l → Rows.uptoBulk d ≤ Rows.uptoBulkAll l
  | e :: r, d, h => by
    rw [Rows.uptoBulkAll]
    rcases List.mem_cons.1 h with rfl | h
    · omega
    · have := bulk_mem h
      omega
theorem texts_bulk {fuel : Nat} {x : DataW H × List MemPlace} {A : Option Addr} {len cap : Nat} (h : DataW.trod enc Try.prog w base spare held fuel 50 [.slice A len cap] = some x) : len ≤ Rows.uptoBulk x.1 := by
  have hC : Try.prog.cellsOf 9 = 1 := by kernel_rfl
  rcases open_slice1 Try.underlying50 hC h with ⟨hcs, _⟩ | ⟨a, l, c, m, n, V, D, Pl, hcs, hb, hl, hm, hmm, hx, hi⟩
  · simp at hcs
    omega
  · simp at hcs
    obtain ⟨rfl, rfl, rfl⟩ := hcs
    rw [hx, Rows.uptoBulk]
    have := bulk_len ((List.range len).map D)
    rw [List.length_map, List.length_range] at this
    omega
theorem upto_bulk {l : List (DataW H)} (h : Rows.uptoSmall H l = true) : Rows.uptoBulkAll l ≤ 1048576 := of_decide_eq_true h
end Go.Proofs.Ytpjfhbmegabafaa
namespace Go.Proofs.Ytpjfhbmegabafaa
open Go.RowKit

theorem At.new (w : World) (vs : List Value) (n : Nat) (e : TypeId) (cs : Array Value) (h : cs.toList = vs) (hn : vs.length = n) :
    At (w.alloc (.cells cs e)) (w.heap.size + 1) 1 (some ⟨w.heap.size, 0, none⟩) n vs := by
  subst hn h
  refine ⟨by simp, .inr ⟨_, rfl, Nat.lt_succ_self _, fun j hj => ?_⟩⟩
  have e0 : (⟨w.heap.size, 0, none⟩ : Addr).add j = ⟨w.heap.size, j, none⟩ := by
    unfold Addr.add
    by_cases h0 : j = 0 <;> simp [h0]
  have hj' : j < cs.size := by simpa using hj
  rw [e0, cell_of_row _ w.heap.size j cs e (0, 0) (heap_alloc_new w _), Array.getElem?_eq_getElem hj']
  simp

set_option maxHeartbeats 400000 in
theorem SameTexts_any (A : Option Addr) (n c : Nat) (xs : List ByteArray) (A' : Option Addr) (c' : Nat) (B : Nat) (w : World) (h : Texts w B A n xs) (hn : n ≤ 100000000000000) (h' : Texts w B A' n xs) :
    Calls Try.prog 27 #[.slice A n c, .slice A' n c'] w fun e w' => e = .returned (.bool true) ∧ ∃ m, w' = w.drewN m := by
  go_enter Try.func27, Try.ntmps27
  go_wp2
  go_loopw [5] (fun i wr => ∃ k m : Nat, k ≤ n ∧ i = .int .i64 k ∧ wr = w.drewN m) (fun i _ => n - (intOf i).toNat)
  case atStart => exact ⟨0, 0, Nat.zero_le _, rfl, rfl⟩
  case round =>
    obtain ⟨k, m, hk, rfl, rfl⟩ := hrel
    by_cases hlt : k < n
    · obtain ⟨p, rfl, hB, x, -, hx, hc⟩ := h.get hlt
      obtain ⟨p', rfl, hB', x', -, hx', hc'⟩ := h'.get hlt
      obtain rfl : x = x' := Option.some.inj (hx.symm.trans hx')
      have hkn : (k : Int) < (n : Int) := by omega
      clear hx hx'
      go_wp2
      go_quiet (fail)
      go_wp2
      go_roundw
      case rel => exact ⟨k + 1, _, by omega, by go_num, rfl⟩
      case measure => simp [intOf]; omega
    · obtain rfl : k = n := by omega
      go_wp2
      go_ret
      exact ⟨rfl, m, rfl⟩

end Go.Proofs.Ytpjfhbmegabafaa
namespace Go.Proofs.Ytpjfhbmegabafaa
open Go.RowKit

theorem Try.infoStr : (Try.prog.info? 9).map (fun i => (i.zero, i.size, i.bytes)) = some (some (.string ByteArray.empty), 1, 16) := by kernel_rfl

/-- What lies in the room behind. -/
def roomS : List ByteArray := [⟨#[126, 114, 111, 111, 109]⟩, ⟨#[126, 98, 101, 104, 105, 110, 100]⟩]

set_option maxHeartbeats 400000 in
theorem CopyTexts_any {w : World} (A : Option Addr) (n c : Nat) (xs : List ByteArray) (h : TextsIn w A n c xs) :
    Calls Try.prog 48 #[.slice A n c] w fun e w' => ∃ A' c', e = .returned (.slice A' n c') ∧ w'.ownsRow w.heap.size 9 1 (.slice A' n c') n (strs xs) ∧ Below w.heap.size w w' := by
  obtain ⟨hx, hn, hc, hnil, _⟩ := h
  obtain ⟨i0, hi, hz0, hz1, hz2⟩ := info_parts Try.infoStr
  go_enter Try.func48, Try.ntmps48
  go_wp2_with (at_builtin; refine wpList_appends rfl (.tmp 3) (.tmp 4) 50 9 rfl w.heap.size i0 (.string ByteArray.empty) 1 16 Try.underlying50 hi hz0 hz1 hz2 rfl (by decide) (some ⟨w.heap.size, 0, none⟩) 0 0 [] w.heap.size A n c (strs xs) rfl rfl hnil (strs_one _) (by omega) (by omega) ?_ ?_ (by first | (simp; done) | (simp; omega) | omega) ?_; rotate_right; intro A6 c6 w1 hown1 hb1 hg1; rotate_left; (exact World.ownsRow_lit w #[] 0 (Nat.le_refl _) (by decide) rfl); (exact At.alloc hx (Nat.le_refl _) _))
  go_ret
  rw [Nat.zero_add, List.nil_append] at hown1
  exact ⟨_, _, rfl, hown1, ((Below.refl _ _).alloc (Nat.le_refl _) _).trans hb1⟩

set_option maxRecDepth 100000 in
set_option maxHeartbeats 400000 in
theorem LendTexts_any {w : World} (A : Option Addr) (n c : Nat) (xs : List ByteArray) (h : TextsIn w A n c xs) :
    Calls Try.prog 29 #[.slice A n c] w fun e w' => ∃ A' c', e = .returned (.slice A' n c') ∧ n + 2 ≤ c' ∧ Texts w' w'.heap.size A' (n + 2) (xs ++ roomS) ∧ Below w.heap.size w w' := by
  have h0 := h
  obtain ⟨hx, hn, hc, hnil, _⟩ := h
  obtain ⟨i0, hi, hz0, hz1, hz2⟩ := info_parts Try.infoStr
  go_enter Try.func29, Try.ntmps29
  go_wp2_with fail
  refine (CopyTexts_any A n c xs h0).mono ?_
  rintro e w1 ⟨A1, c1, rfl, hown, hb⟩
  have hsz := hb.size
  go_wp2_with (at_builtin; refine wpList_appends rfl (.tmp 5) (.tmp 6) 50 9 rfl w.heap.size i0 (.string ByteArray.empty) 1 16 Try.underlying50 hi hz0 hz1 hz2 rfl (by decide) A1 n c1 (strs xs) (w1.heap.size + 1) (some ⟨w1.heap.size, 0, none⟩) 2 2 (strs roomS) rfl rfl (fun h => by cases h) (strs_one _) (by omega) (by omega) ?_ ?_ (by first | (simp; done) | (simp; omega) | omega) ?_; rotate_right; intro A6 c6 w2 hown2 hb2 hg2; rotate_left; (exact hown.alloc _); (exact At.new _ _ _ _ _ rfl rfl); have hc6 := own_cap hown2)
  go_ret
  refine ⟨_, _, rfl, own_cap hown2, ?_, ?_⟩
  · unfold Texts
    rw [strs_append]
    exact At.of_own hown2
  · exact (hb.alloc hsz _).trans hb2

/-- Two texts behind. -/
theorem room_get (xs : List ByteArray) (n : Nat) (h : xs.length = n) : (xs ++ roomS)[n]? = some ⟨#[126, 114, 111, 111, 109]⟩ ∧ (xs ++ roomS)[n + 1]? = some ⟨#[126, 98, 101, 104, 105, 110, 100]⟩ := by
  subst h
  constructor <;> simp [roomS]

set_option maxRecDepth 100000 in
set_option maxHeartbeats 400000 in
theorem KeptTexts_any {w : World} (A : Option Addr) (n c : Nat) (xs : List ByteArray) (A' : Option Addr) (c' : Nat) (B : Nat) (hx : Texts w B A' n xs) (hn : n ≤ 100000000000000) (hc : n + 2 ≤ c) (h : Texts w B A (n + 2) (xs ++ roomS)) :
    Calls Try.prog 34 #[.slice A n c, .slice A' n c'] w fun e w' => e = .returned (.bool true) ∧ ∃ m, w' = w.drewN m := by
  obtain ⟨p, rfl, hB, x1, -, hx1, hc1⟩ := h.get (k := n) (by omega)
  obtain ⟨p', hpp, _, x2, -, hx2, hc2⟩ := h.get (k := n + 1) (by omega)
  obtain rfl : p = p' := by injection hpp
  obtain rfl := Option.some.inj (hx1.symm.trans (room_get xs n hx.len).1)
  obtain rfl := Option.some.inj (hx2.symm.trans (room_get xs n hx.len).2)
  have hf := h.front hx.len
  have c1 := hid (SameTexts_any (some p) n c xs A' c' B w hf hn hx)
  have hc3 := hc2
  rw [Addr.add_succ'] at hc3
  clear hpp hf hx1 hx2
  go_enter Try.func34, Try.ntmps34
  go_wp2_with (go_at_call 27; refine c1.out.mono ?_; rintro e w' ⟨rfl, m, rfl⟩)
  go_ret
  exact ⟨rfl, _, rfl⟩

end Go.Proofs.Ytpjfhbmegabafaa
