/- Layer 16: names with slashes between; the law PathBack. -/
import Derived.Test.YtapegklffglnoaaPthM
namespace Go.Proofs.Ytapegklffglnoaa
open Go.RowKit

theorem snoc_ind {α : Type} {p : List α → Prop} (h0 : p []) (h1 : ∀ xs x, p xs → p (xs ++ [x])) (xs : List α) : p xs := by
  have h : ∀ ys : List α, p ys.reverse := fun ys => by
    induction ys with
    | nil => exact h0
    | cons y ys ih =>
      rw [List.reverse_cons]
      exact h1 _ _ ih
  have := h xs.reverse
  rwa [List.reverse_reverse] at this

/-- Names, a slash ahead of each. -/
def pathB (xs : List ByteArray) : ByteArray := xs.foldl (fun p x => p ++ ⟨#[47]⟩ ++ x) ByteArray.empty

theorem pathB_snoc (xs : List ByteArray) (x : ByteArray) : pathB (xs ++ [x]) = pathB xs ++ ⟨#[47]⟩ ++ x := by
  unfold pathB
  rw [List.foldl_append]
  rfl

theorem path_append (a b : List (List UInt8)) : Pth.path (a ++ b) = Pth.path a ++ Pth.path b := by simp [Pth.path]

theorem pathB_data (xs : List ByteArray) : (pathB xs).data.toList = Pth.path (xs.map (·.data.toList)) := by
  induction xs using snoc_ind with
  | h0 => rfl
  | h1 xs x ih =>
    rw [pathB_snoc, data_append, data_append, ih, List.map_append, path_append]
    simp [Pth.path]

theorem pathB_next {xs : List ByteArray} {k : Nat} {x : ByteArray} (h : xs[k]? = some x) : pathB (xs.take (k + 1)) = pathB (xs.take k) ++ ⟨#[47]⟩ ++ x := by
  rw [List.take_add_one, h]
  exact pathB_snoc _ _

theorem pathB_mono (xs : List ByteArray) (k : Nat) : (pathB (xs.take k)).size ≤ (pathB xs).size := by
  rw [← data_length, ← data_length, pathB_data, pathB_data]
  have e : xs = xs.take k ++ xs.drop k := (List.take_append_drop k xs).symm
  conv => rhs; rw [e]
  rw [List.map_append, path_append, List.length_append]
  omega

theorem pathB_size (xs : List ByteArray) (m : Nat) (h : ∀ x ∈ xs, x.size ≤ m) : (pathB xs).size ≤ xs.length * (m + 1) := by
  induction xs using snoc_ind with
  | h0 => exact Nat.zero_le _
  | h1 xs x ih =>
    have h1 := ih (fun y hy => h y (List.mem_append.2 (.inl hy)))
    have h2 := h x (List.mem_append.2 (.inr (List.mem_singleton.2 rfl)))
    have h3 : (⟨#[47]⟩ : ByteArray).size = 1 := rfl
    rw [pathB_snoc, size_append, size_append, h3, List.length_append]
    show _ ≤ (xs.length + 1) * (m + 1)
    rw [Nat.succ_mul]
    omega

/-- May all of them be names? -/
def fineB (xs : List ByteArray) : Bool := xs.all fun x => Pth.nameOk x.data.toList
theorem fineB_next {xs : List ByteArray} {k : Nat} {x : ByteArray} (h : xs[k]? = some x) : fineB (xs.take (k + 1)) = (fineB (xs.take k) && Pth.nameOk x.data.toList) := by
  rw [List.take_add_one, h]
  simp [fineB]

theorem nameOk_clean {l : List UInt8} (h : Pth.nameOk l = true) : (∀ c ∈ l, c ≠ 47) ∧ l ≠ [] := by
  unfold Pth.nameOk at h
  have h' := of_decide_eq_true h
  refine ⟨fun c hc => (h'.2.2.2.2 c hc).1, fun e => ?_⟩
  have := h'.1
  rw [e] at this
  simp at this

/-- What begins with a slash. -/
theorem pathB_head (x : ByteArray) (xs : List ByteArray) : (pathB (x :: xs)).data.toList = 47 :: (x.data.toList ++ Pth.path (xs.map (·.data.toList))) := by
  rw [pathB_data]
  rfl

theorem split_fine {x : ByteArray} {xs : List ByteArray} (h : fineB (x :: xs) = true) (h8 : (x :: xs).length ≤ 8) (hs : (pathB (x :: xs)).size ≤ 128) : splitB (pathB (x :: xs)) = x :: xs ∧ splitE (pathB (x :: xs)) = 0 := by
  have hall : ∀ y ∈ x :: xs, Pth.nameOk y.data.toList = true := List.all_eq_true.1 h
  have hx := nameOk_clean (hall x (List.mem_cons_self ..))
  refine split_all (split_some (pathB_head x xs) hs (by simp [hx.2])) ?_ hall h8
  refine Pth.pieces_path _ _ ?_
  intro q hq
  have hq' : q ∈ (x :: xs).map (·.data.toList) := hq
  obtain ⟨y, hy, rfl⟩ := List.mem_map.1 hq'
  exact (nameOk_clean (hall y hy)).1

/-- Whatever the names were: what Split tells of them makes the path. -/
theorem split_again {p : ByteArray} {l : List UInt8} (h : p.data.toList = 47 :: l) (hl : l ≠ []) (hs : p.size ≤ 128) (he : splitE p = 0) : pathB (splitB p) = p ∧ (splitB p).length ≠ 0 := by
  have hsp := split_some h hs hl
  have hok : (∀ q ∈ Pth.pieces l, Pth.nameOk q = true) ∧ (Pth.pieces l).length ≤ 8 := by
    refine Classical.byContradiction fun hn => ?_
    rw [if_neg hn] at hsp
    unfold splitE at he
    rw [hsp] at he
    cases he
  rw [if_pos hok] at hsp
  have hb : splitB p = (Pth.pieces l).map fun l => ⟨l.toArray⟩ := by
    unfold splitB
    rw [hsp]
    rfl
  refine ⟨?_, ?_⟩
  · apply bytes_ext
    rw [pathB_data, hb, List.map_map, h, ← Pth.path_pieces l]
    congr 1
    exact (List.map_congr_left (fun x _ => rfl)).trans (List.map_id _)
  · rw [hb, List.length_map]
    intro e
    exact Pth.pieces_ne l (List.eq_nil_of_length_eq_zero e)

theorem split_none_of (p : ByteArray) : (splitE p = 1600 ∧ splitB p = []) ∨ (splitE p = 0 ∧ p.size ≤ 128) := by
  cases h : Pth.split p.data.toList with
  | none => exact .inl ⟨by unfold splitE; rw [h]; rfl, by unfold splitB; rw [h]; rfl⟩
  | some a =>
    refine .inr ⟨by unfold splitE; rw [h]; rfl, ?_⟩
    refine Nat.le_of_not_lt fun hlt => ?_
    rw [split_bad hlt] at h
    cases h

theorem str_self (p : ByteArray) : (p.toList == p.toList) = true := by simp

set_option maxRecDepth 100000 in
set_option maxHeartbeats 2000000 in
theorem again_any {w : World} (p : ByteArray) (A : Option Addr) (n c B : Nat) (ys : List ByteArray) (hT : Texts w B A n ys) (hp : pathB ys = p) (hn : 0 < n) (hn8 : n ≤ 1000) (hs : p.size ≤ 128) (hys : ∀ y ∈ ys, y.size ≤ 128) :
    Calls Try.prog 20 #[.string p, .slice A n c] w fun e w' => e = .returned (.bool true) ∧ w = w' := by
  have hmono := hid (fun k => hp ▸ pathB_mono ys k)
  have hlen := hT.len
  have hself := str_self p
  have hT' := hid hT
  have hp' := hid hp
  have hys' := hid hys
  have hn0 : (0 : Int) < (n : Int) := by omega
  clear hT hp hys
  go_enter Try.func20, Try.ntmps20
  go_wp2_with fail
  go_loop [5, 6] (fun s i => ∃ k : Nat, k ≤ n ∧ s = .string (pathB (ys.take k)) ∧ i = .int .i64 (k : Int)) (fun _ i => n - (intOf i).toNat)
  case atStart => exact ⟨0, Nat.zero_le _, rfl, rfl⟩
  case round =>
    obtain ⟨k, hk, rfl, rfl⟩ := hrel
    have hmk := Nat.le_trans (hmono.out k) hs
    by_cases hlt : k < n
    · obtain ⟨q, rfl, hqB, x, hxm, hx, hc⟩ := hT'.out.get hlt
      have hx128 := hys'.out x hxm
      have hnx := hid (pathB_next hx)
      have hlt' : (k : Int) < (n : Int) := by omega
      have h3 : (⟨#[47]⟩ : ByteArray).size ≤ 1 := Nat.le_refl _
      clear hx
      generalize pathB (ys.take k) = pk at hmk hnx ⊢
      go_wp2_with fail
      go_round
      case rel => exact ⟨k + 1, by omega, by rw [hnx.out], by go_num⟩
      case measure => simp [intOf]; omega
    · obtain rfl : k = n := by omega
      have hfull : pathB (ys.take k) = p := by rw [List.take_of_length_le (by omega)]; exact hp'.out
      rw [hfull]
      clear hfull
      go_wp2_with fail
      go_ret
      exact ⟨rfl, rfl⟩

theorem Texts.front2 {w : World} {B n : Nat} {A : Option Addr} {xs : List ByteArray} (h : Texts w B A n xs) (k : Nat) (hk : k ≤ n) : Texts w B A k (xs.take k) := by
  have hl := h.len
  obtain ⟨m, rfl⟩ : ∃ m, n = k + m := ⟨n - k, by omega⟩
  have e : xs = xs.take k ++ xs.drop k := (List.take_append_drop k xs).symm
  rw [e] at h
  exact h.front (by rw [List.length_take]; omega)

theorem pathB_each {xs : List ByteArray} {y : ByteArray} (h : y ∈ xs) : y.size ≤ (pathB xs).size := by
  rw [← data_length, ← data_length, pathB_data]
  induction xs with
  | nil => cases h
  | cons x xs ih =>
    have e : Pth.path ((x :: xs).map (·.data.toList)) = 47 :: (x.data.toList ++ Pth.path (xs.map (·.data.toList))) := rfl
    rw [e, List.length_cons, List.length_append]
    rcases List.mem_cons.1 h with rfl | h
    · omega
    · have := ih h
      omega

set_option maxRecDepth 100000 in
set_option maxHeartbeats 8000000 in
theorem PathBack_law {w : World} (A : Option Addr) (n c : Nat) (xs : List ByteArray) (h : TextsIn w A n c xs) :
    Calls Try.prog 4 #[.slice A n c] w fun e w' => e = .returned (.bool true) ∧ Below w.heap.size w w' := by
  obtain ⟨hX, hnc, hn16, hnil, hxs⟩ := h
  have hlen := hX.len
  have hX' := hid hX
  have hxs' := hid hxs
  clear hX hxs
  go_enter Try.func4, Try.ntmps4
  go_wp2_with fail
  refine (awake16_any _).mono ?_
  rintro e W1 ⟨rfl, hb1⟩
  have hX1 := hid (hX'.out.below hb1)
  have hB1 := hid hb1
  clear hb1
  go_wp2_with fail
  go_loopw [3, 4, 5] (fun p f i wr => ∃ k : Nat, k ≤ n ∧ k ≤ 12 ∧ p = .string (pathB (xs.take k)) ∧ f = .bool (fineB (xs.take k)) ∧ i = .int .i64 (k : Int) ∧ Below w.heap.size w wr) (fun _ _ i _ => 12 - (intOf i).toNat)
  case atStart => exact ⟨0, Nat.zero_le _, Nat.zero_le _, rfl, rfl, rfl, hB1.out⟩
  case round =>
    obtain ⟨k, hk, hk12, rfl, rfl, rfl, hB⟩ := hrel
    by_cases hlt : k < n ∧ k < 12
    · obtain ⟨hltn, hlt12⟩ := hlt
      obtain ⟨q, rfl, hqB, x, hxm, hx, hc⟩ := (hX'.out.below hB).get hltn
      have hx47 := hxs'.out x hxm
      have hnx := hid (pathB_next hx)
      have hfx := hid (fineB_next hx)
      have hsz : (pathB (xs.take k)).size ≤ 1700000000000000 := by
        have h1 := pathB_size (xs.take k) 140737488351232 (fun y hy => hxs'.out y (List.mem_of_mem_take hy))
        have h2 : (xs.take k).length ≤ 11 := by rw [List.length_take]; omega
        have h3 := Nat.mul_le_mul_right (140737488351232 + 1) h2
        omega
      have hltn' : (k : Int) < (n : Int) := by omega
      have hlt12' : (k : Int) < 12 := by omega
      have h3 : (⟨#[47]⟩ : ByteArray).size ≤ 1 := Nat.le_refl _
      have hB' := hid hB
      clear hx hB
      obtain ⟨fk, hfk⟩ : ∃ fk, fineB (xs.take k) = fk := ⟨_, rfl⟩
      rw [hfk] at hfx ⊢
      clear hfk
      generalize pathB (xs.take k) = pk at hsz hnx ⊢
      cases fk with
      | false =>
        go_wp2_with fail
        go_roundw
        case rel => exact ⟨k + 1, by omega, by omega, by rw [hnx.out], by rw [hfx.out]; rfl, by go_num, hB'.out⟩
        case measure => simp [intOf]; omega
      | true =>
        obtain ⟨b, hb⟩ : ∃ b, Pth.nameOk x.data.toList = b := ⟨_, rfl⟩
        have h1 := hid (nameMay_any x)
        rw [hb] at h1 hfx
        clear hb
        go_wp2_with fail
        refine (h1.out _ (by unfold maxLen; omega)).mono ?_
        rintro e W2 ⟨rfl, hb2⟩
        have hB2 := hid (hB'.out.trans (hb2.mono hB'.out.size))
        clear hb2
        go_wp2_with fail
        go_roundw
        case rel => exact ⟨k + 1, by omega, by omega, by rw [hnx.out], by rw [hfx.out]; rfl, by go_num, hB2.out⟩
        case measure => simp [intOf]; omega
    · have hkk : (k = n ∧ n ≤ 12) ∨ (k = 12 ∧ 12 < n) := by omega
      have hsz : (pathB (xs.take k)).size ≤ 1800000000000000 := by
        have h1 := pathB_size (xs.take k) 140737488351232 (fun y hy => hxs'.out y (List.mem_of_mem_take hy))
        have h2 : (xs.take k).length ≤ 12 := by rw [List.length_take]; omega
        have h3 := Nat.mul_le_mul_right (140737488351232 + 1) h2
        omega
      have hB' := hid hB
      clear hlt hB
      obtain ⟨F, hF⟩ : ∃ F, fineB (xs.take k) = F := ⟨_, rfl⟩
      obtain ⟨p, hp⟩ : ∃ p, pathB (xs.take k) = p := ⟨_, rfl⟩
      rw [hF, hp]
      rw [hp] at hsz
      have hp' := hid hp
      have hF' := hid hF
      clear hp hF
      rcases hkk with ⟨hk1, hk2⟩ | ⟨hk1, hk2⟩
      · have e1 : ¬ (k : Int) < (n : Int) := by omega
        have hmin : min (n : Int) 12 = (k : Int) := by omega
        clear hk1 hk2
        by_cases h0 : k = 0
        · have hF1 := hF'.out
          have hp1 := hp'.out
          have hmin0 : min (0 : Int) 12 = 0 := by decide
          have hn0 : n = 0 := by omega
          subst hn0
          subst h0
          obtain rfl : true = F := hF1
          obtain rfl : ByteArray.empty = p := hp1
          go_wp2_with fail
          refine (Split_any _ _ (by decide)).mono ?_
          rintro e W4 ⟨A4, n4, c4, rfl, hT4, hB4⟩
          rw [sp2.2]
          rw [sp2.1] at hT4
          obtain rfl : 0 = n4 := hT4.len
          have hB4' := hid (hB'.out.trans (hB4.mono hB'.out.size))
          clear hT4 hB4
          go_wp2_with (go_at_call 16; refine (errNum_any _ _).mono ?_; rintro e w' ⟨rfl, rfl⟩)
          refine (SameTexts_any A4 0 c4 [] A c 0 _ ⟨rfl, .inl rfl⟩ (by omega) ⟨rfl, .inl rfl⟩).mono ?_
          rintro e w5 ⟨rfl, m5, rfl⟩
          go_wp2_with fail
          go_ret
          exact ⟨rfl, below_drewN hB4'.out _⟩
        · have h0' : ((k : Int) == 0) = false := by simp; omega
          obtain ⟨x0, rest, hx0⟩ : ∃ x0 rest, xs.take k = x0 :: rest := by
            cases hq : xs.take k with
            | nil =>
              have := congrArg List.length hq
              rw [List.length_take, hlen, List.length_nil] at this
              omega
            | cons a b => exact ⟨a, b, rfl⟩
          have hx0 := hid hx0
          by_cases hall : F = true ∧ k ≤ 8 ∧ p.size ≤ 128
          · obtain ⟨hF1, h8, hs128⟩ := hall
            subst hF1
            have h8' : (k : Int) ≤ 8 := by omega
            have hs' : (p.size : Int) ≤ 128 := by omega
            have hans := hid (split_fine (x := x0) (xs := rest) (hx0.out ▸ hF'.out) (by rw [← hx0.out]; exact Nat.le_trans (List.length_take_le k xs) h8) (by rw [← hx0.out, hp'.out]; exact hs128))
            go_wp2_with fail
            refine (Split_any _ _ (by unfold maxLen; omega)).mono ?_
            rintro e W4 ⟨A4, n4, c4, rfl, hT4, hB4⟩
            have hpe : pathB (x0 :: rest) = p := by rw [← hx0.out]; exact hp'.out
            have hans2 := hans.out
            rw [hpe] at hans2
            rw [hans2.2]
            rw [hans2.1, ← hx0.out] at hT4
            obtain rfl : k = n4 := by
              have := hT4.len
              rw [List.length_take, hlen] at this
              omega
            have hB4' := hid (hB'.out.trans (hB4.mono hB'.out.size))
            have hT4' := hid hT4
            have hX4 := hid ((hX'.out.below hB4'.out).more hB4'.out.size)
            clear hT4 hB4 hans2 hpe
            go_wp2_with (go_at_call 16; refine (errNum_any _ _).mono ?_; rintro e w' ⟨rfl, rfl⟩)
            refine (SameTexts_any A4 k c4 (xs.take k) A c W4.heap.size _ hT4'.out (by omega) (hX4.out.front2 k hk)).mono ?_
            rintro e w5 ⟨rfl, m5, rfl⟩
            go_wp2_with fail
            go_ret
            exact ⟨rfl, below_drewN hB4'.out _⟩
          · cases F with
            | false =>
              go_wp2_with fail
              refine (Split_any _ _ (by unfold maxLen; omega)).mono ?_
              rintro e W4 ⟨A4, n4, c4, rfl, hT4, hB4⟩
              have hpl : p.data.toList = 47 :: (x0.data.toList ++ Pth.path (rest.map (·.data.toList))) := by rw [← hp'.out, hx0.out]; exact pathB_head x0 rest
              have hpl := hid hpl
              have hB4' := hid (hB'.out.trans (hB4.mono hB'.out.size))
              have hT4' := hid hT4
              obtain ⟨q, hqA, hqB, y0, _, hy0, hcy⟩ := ((hX'.out.below hB4'.out)).get (k := 0) (by omega)
              have hy0x : y0 = x0 := by
                have h1 : (xs.take k)[0]? = some y0 := by rw [List.getElem?_take_of_lt (by omega)]; exact hy0
                rw [hx0.out] at h1
                exact (Option.some.inj h1).symm
              subst hy0x
              subst hqA
              have hcy0 : W4.cell? q = some (.string y0) := by simpa [Addr.add] using hcy
              have hn0 : 0 < n := by omega
              have hn0' : (0 : Int) < (n : Int) := by omega
              clear hT4 hB4 hy0 hcy
              by_cases hk1 : k = 1
              · have hk1' : ((k : Int) == 1) = true := by simp; omega
                have hrest : rest = [] := by
                  have h1 := congrArg List.length hx0.out
                  rw [List.length_take, List.length_cons] at h1
                  exact List.eq_nil_of_length_eq_zero (by omega)
                by_cases hy : y0.data.toList = []
                · have hy' : (y0.toList == []) = true := by rw [Lib.toList_data, hy]; rfl
                  have hroot : p.data.toList = [47] := by rw [hpl.out, hy, hrest]; rfl
                  have hE : splitE p = 0 := by unfold splitE; rw [split_root hroot]; rfl
                  have hBB : splitB p = [] := by unfold splitB; rw [split_root hroot]; rfl
                  have hn4 : n4 = 0 := by rw [← hT4'.out.len, hBB]; rfl
                  subst hn4
                  rw [hE]
                  clear hE hBB hroot hy hrest hk1
                  go_wp2_with (go_at_call 16; refine (errNum_any _ _).mono ?_; rintro e w' ⟨rfl, rfl⟩)
                  go_ret
                  exact ⟨rfl, hB4'.out⟩
                · have hy' : (y0.toList == []) = false := by
                    rw [Lib.toList_data]
                    simpa using hy
                  rcases split_none_of p with ⟨hE, hBB⟩ | ⟨hE, h128⟩
                  · have hn4 : n4 = 0 := by rw [← hT4'.out.len, hBB]; rfl
                    subst hn4
                    rw [hE]
                    clear hE hBB hy hrest hk1
                    go_wp2_with (go_at_call 16; refine (errNum_any _ _).mono ?_; rintro e w' ⟨rfl, rfl⟩)
                    go_ret
                    exact ⟨rfl, hB4'.out⟩
                  · have hne : y0.data.toList ++ Pth.path (rest.map (·.data.toList)) ≠ [] := fun e => hy (List.append_eq_nil_iff.1 e).1
                    have hag := hid (split_again hpl.out (fun e => hne e) h128 hE)
                    have hn4 : 0 < n4 := by
                      have h1 := hT4'.out.len
                      have h2 := hag.out.2
                      omega
                    have hn41 : n4 ≤ 1000 := by
                      have h1 := hT4'.out.len
                      have h2 := splitB_short p
                      omega
                    rw [hE]
                    clear hE hy hrest hk1 hne
                    go_wp2_with (go_at_call 16; refine (errNum_any _ _).mono ?_; rintro e w' ⟨rfl, rfl⟩)
                    refine (again_any p A4 n4 c4 W4.heap.size (splitB p) hT4'.out hag.out.1 (by omega) (by omega) h128 (fun y hy => Nat.le_trans (pathB_each hy) (by rw [hag.out.1]; exact h128))).mono ?_
                    rintro e w' ⟨rfl, rfl⟩
                    go_wp2_with fail
                    go_ret
                    exact ⟨rfl, hB4'.out⟩
              · have hk1' : ((k : Int) == 1) = false := by simp; omega
                rcases split_none_of p with ⟨hE, hBB⟩ | ⟨hE, h128⟩
                · have hn4 : n4 = 0 := by rw [← hT4'.out.len, hBB]; rfl
                  subst hn4
                  rw [hE]
                  clear hE hBB hk1
                  go_wp2_with (go_at_call 16; refine (errNum_any _ _).mono ?_; rintro e w' ⟨rfl, rfl⟩)
                  go_ret
                  exact ⟨rfl, hB4'.out⟩
                · have hne : y0.data.toList ++ Pth.path (rest.map (·.data.toList)) ≠ [] := fun e => by
                    have h1 := (List.append_eq_nil_iff.1 e).2
                    cases hr : rest with
                    | nil =>
                      have h2 := congrArg List.length hx0.out
                      rw [hr, List.length_take] at h2
                      simp at h2
                      omega
                    | cons a b =>
                      rw [hr] at h1
                      simp [Pth.path] at h1
                  have hag := hid (split_again hpl.out (fun e => hne e) h128 hE)
                  have hn4 : 0 < n4 := by
                    have h1 := hT4'.out.len
                    have h2 := hag.out.2
                    omega
                  have hn41 : n4 ≤ 1000 := by
                    have h1 := hT4'.out.len
                    have h2 := splitB_short p
                    omega
                  rw [hE]
                  clear hE hk1 hne
                  go_wp2_with (go_at_call 16; refine (errNum_any _ _).mono ?_; rintro e w' ⟨rfl, rfl⟩)
                  refine (again_any p A4 n4 c4 W4.heap.size (splitB p) hT4'.out hag.out.1 (by omega) (by omega) h128 (fun y hy => Nat.le_trans (pathB_each hy) (by rw [hag.out.1]; exact h128))).mono ?_
                  rintro e w' ⟨rfl, rfl⟩
                  go_wp2_with fail
                  go_ret
                  exact ⟨rfl, hB4'.out⟩
            | true =>
              by_cases h8 : k ≤ 8
              · have h8' : (k : Int) ≤ 8 := by omega
                have hs' : ¬ (p.size : Int) ≤ 128 := fun e => hall ⟨rfl, h8, by omega⟩
                go_wp2_with fail
                refine (Split_any _ _ (by unfold maxLen; omega)).mono ?_
                rintro e W4 ⟨A4, n4, c4, rfl, hT4, hB4⟩
                have hpl : p.data.toList = 47 :: (x0.data.toList ++ Pth.path (rest.map (·.data.toList))) := by rw [← hp'.out, hx0.out]; exact pathB_head x0 rest
                have hpl := hid hpl
                have hB4' := hid (hB'.out.trans (hB4.mono hB'.out.size))
                have hT4' := hid hT4
                obtain ⟨q, hqA, hqB, y0, _, hy0, hcy⟩ := ((hX'.out.below hB4'.out)).get (k := 0) (by omega)
                have hy0x : y0 = x0 := by
                  have h1 : (xs.take k)[0]? = some y0 := by rw [List.getElem?_take_of_lt (by omega)]; exact hy0
                  rw [hx0.out] at h1
                  exact (Option.some.inj h1).symm
                subst hy0x
                subst hqA
                have hcy0 : W4.cell? q = some (.string y0) := by simpa [Addr.add] using hcy
                have hn0 : 0 < n := by omega
                have hn0' : (0 : Int) < (n : Int) := by omega
                clear hT4 hB4 hy0 hcy
                by_cases hk1 : k = 1
                · have hk1' : ((k : Int) == 1) = true := by simp; omega
                  have hrest : rest = [] := by
                    have h1 := congrArg List.length hx0.out
                    rw [List.length_take, List.length_cons] at h1
                    exact List.eq_nil_of_length_eq_zero (by omega)
                  by_cases hy : y0.data.toList = []
                  · have hy' : (y0.toList == []) = true := by rw [Lib.toList_data, hy]; rfl
                    have hroot : p.data.toList = [47] := by rw [hpl.out, hy, hrest]; rfl
                    have hE : splitE p = 0 := by unfold splitE; rw [split_root hroot]; rfl
                    have hBB : splitB p = [] := by unfold splitB; rw [split_root hroot]; rfl
                    have hn4 : n4 = 0 := by rw [← hT4'.out.len, hBB]; rfl
                    subst hn4
                    rw [hE]
                    clear hE hBB hroot hy hrest hk1
                    go_wp2_with (go_at_call 16; refine (errNum_any _ _).mono ?_; rintro e w' ⟨rfl, rfl⟩)
                    go_ret
                    exact ⟨rfl, hB4'.out⟩
                  · have hy' : (y0.toList == []) = false := by
                      rw [Lib.toList_data]
                      simpa using hy
                    rcases split_none_of p with ⟨hE, hBB⟩ | ⟨hE, h128⟩
                    · have hn4 : n4 = 0 := by rw [← hT4'.out.len, hBB]; rfl
                      subst hn4
                      rw [hE]
                      clear hE hBB hy hrest hk1
                      go_wp2_with (go_at_call 16; refine (errNum_any _ _).mono ?_; rintro e w' ⟨rfl, rfl⟩)
                      go_ret
                      exact ⟨rfl, hB4'.out⟩
                    · have hne : y0.data.toList ++ Pth.path (rest.map (·.data.toList)) ≠ [] := fun e => hy (List.append_eq_nil_iff.1 e).1
                      have hag := hid (split_again hpl.out (fun e => hne e) h128 hE)
                      have hn4 : 0 < n4 := by
                        have h1 := hT4'.out.len
                        have h2 := hag.out.2
                        omega
                      have hn41 : n4 ≤ 1000 := by
                        have h1 := hT4'.out.len
                        have h2 := splitB_short p
                        omega
                      rw [hE]
                      clear hE hy hrest hk1 hne
                      go_wp2_with (go_at_call 16; refine (errNum_any _ _).mono ?_; rintro e w' ⟨rfl, rfl⟩)
                      refine (again_any p A4 n4 c4 W4.heap.size (splitB p) hT4'.out hag.out.1 (by omega) (by omega) h128 (fun y hy => Nat.le_trans (pathB_each hy) (by rw [hag.out.1]; exact h128))).mono ?_
                      rintro e w' ⟨rfl, rfl⟩
                      go_wp2_with fail
                      go_ret
                      exact ⟨rfl, hB4'.out⟩
                · have hk1' : ((k : Int) == 1) = false := by simp; omega
                  rcases split_none_of p with ⟨hE, hBB⟩ | ⟨hE, h128⟩
                  · have hn4 : n4 = 0 := by rw [← hT4'.out.len, hBB]; rfl
                    subst hn4
                    rw [hE]
                    clear hE hBB hk1
                    go_wp2_with (go_at_call 16; refine (errNum_any _ _).mono ?_; rintro e w' ⟨rfl, rfl⟩)
                    go_ret
                    exact ⟨rfl, hB4'.out⟩
                  · have hne : y0.data.toList ++ Pth.path (rest.map (·.data.toList)) ≠ [] := fun e => by
                      have h1 := (List.append_eq_nil_iff.1 e).2
                      cases hr : rest with
                      | nil =>
                        have h2 := congrArg List.length hx0.out
                        rw [hr, List.length_take] at h2
                        simp at h2
                        omega
                      | cons a b =>
                        rw [hr] at h1
                        simp [Pth.path] at h1
                    have hag := hid (split_again hpl.out (fun e => hne e) h128 hE)
                    have hn4 : 0 < n4 := by
                      have h1 := hT4'.out.len
                      have h2 := hag.out.2
                      omega
                    have hn41 : n4 ≤ 1000 := by
                      have h1 := hT4'.out.len
                      have h2 := splitB_short p
                      omega
                    rw [hE]
                    clear hE hk1 hne
                    go_wp2_with (go_at_call 16; refine (errNum_any _ _).mono ?_; rintro e w' ⟨rfl, rfl⟩)
                    refine (again_any p A4 n4 c4 W4.heap.size (splitB p) hT4'.out hag.out.1 (by omega) (by omega) h128 (fun y hy => Nat.le_trans (pathB_each hy) (by rw [hag.out.1]; exact h128))).mono ?_
                    rintro e w' ⟨rfl, rfl⟩
                    go_wp2_with fail
                    go_ret
                    exact ⟨rfl, hB4'.out⟩
              · have h8' : ¬ (k : Int) ≤ 8 := by omega
                go_wp2_with fail
                refine (Split_any _ _ (by unfold maxLen; omega)).mono ?_
                rintro e W4 ⟨A4, n4, c4, rfl, hT4, hB4⟩
                have hpl : p.data.toList = 47 :: (x0.data.toList ++ Pth.path (rest.map (·.data.toList))) := by rw [← hp'.out, hx0.out]; exact pathB_head x0 rest
                have hpl := hid hpl
                have hB4' := hid (hB'.out.trans (hB4.mono hB'.out.size))
                have hT4' := hid hT4
                obtain ⟨q, hqA, hqB, y0, _, hy0, hcy⟩ := ((hX'.out.below hB4'.out)).get (k := 0) (by omega)
                have hy0x : y0 = x0 := by
                  have h1 : (xs.take k)[0]? = some y0 := by rw [List.getElem?_take_of_lt (by omega)]; exact hy0
                  rw [hx0.out] at h1
                  exact (Option.some.inj h1).symm
                subst hy0x
                subst hqA
                have hcy0 : W4.cell? q = some (.string y0) := by simpa [Addr.add] using hcy
                have hn0 : 0 < n := by omega
                have hn0' : (0 : Int) < (n : Int) := by omega
                clear hT4 hB4 hy0 hcy
                by_cases hk1 : k = 1
                · have hk1' : ((k : Int) == 1) = true := by simp; omega
                  have hrest : rest = [] := by
                    have h1 := congrArg List.length hx0.out
                    rw [List.length_take, List.length_cons] at h1
                    exact List.eq_nil_of_length_eq_zero (by omega)
                  by_cases hy : y0.data.toList = []
                  · have hy' : (y0.toList == []) = true := by rw [Lib.toList_data, hy]; rfl
                    have hroot : p.data.toList = [47] := by rw [hpl.out, hy, hrest]; rfl
                    have hE : splitE p = 0 := by unfold splitE; rw [split_root hroot]; rfl
                    have hBB : splitB p = [] := by unfold splitB; rw [split_root hroot]; rfl
                    have hn4 : n4 = 0 := by rw [← hT4'.out.len, hBB]; rfl
                    subst hn4
                    rw [hE]
                    clear hE hBB hroot hy hrest hk1
                    go_wp2_with (go_at_call 16; refine (errNum_any _ _).mono ?_; rintro e w' ⟨rfl, rfl⟩)
                    go_ret
                    exact ⟨rfl, hB4'.out⟩
                  · have hy' : (y0.toList == []) = false := by
                      rw [Lib.toList_data]
                      simpa using hy
                    rcases split_none_of p with ⟨hE, hBB⟩ | ⟨hE, h128⟩
                    · have hn4 : n4 = 0 := by rw [← hT4'.out.len, hBB]; rfl
                      subst hn4
                      rw [hE]
                      clear hE hBB hy hrest hk1
                      go_wp2_with (go_at_call 16; refine (errNum_any _ _).mono ?_; rintro e w' ⟨rfl, rfl⟩)
                      go_ret
                      exact ⟨rfl, hB4'.out⟩
                    · have hne : y0.data.toList ++ Pth.path (rest.map (·.data.toList)) ≠ [] := fun e => hy (List.append_eq_nil_iff.1 e).1
                      have hag := hid (split_again hpl.out (fun e => hne e) h128 hE)
                      have hn4 : 0 < n4 := by
                        have h1 := hT4'.out.len
                        have h2 := hag.out.2
                        omega
                      have hn41 : n4 ≤ 1000 := by
                        have h1 := hT4'.out.len
                        have h2 := splitB_short p
                        omega
                      rw [hE]
                      clear hE hy hrest hk1 hne
                      go_wp2_with (go_at_call 16; refine (errNum_any _ _).mono ?_; rintro e w' ⟨rfl, rfl⟩)
                      refine (again_any p A4 n4 c4 W4.heap.size (splitB p) hT4'.out hag.out.1 (by omega) (by omega) h128 (fun y hy => Nat.le_trans (pathB_each hy) (by rw [hag.out.1]; exact h128))).mono ?_
                      rintro e w' ⟨rfl, rfl⟩
                      go_wp2_with fail
                      go_ret
                      exact ⟨rfl, hB4'.out⟩
                · have hk1' : ((k : Int) == 1) = false := by simp; omega
                  rcases split_none_of p with ⟨hE, hBB⟩ | ⟨hE, h128⟩
                  · have hn4 : n4 = 0 := by rw [← hT4'.out.len, hBB]; rfl
                    subst hn4
                    rw [hE]
                    clear hE hBB hk1
                    go_wp2_with (go_at_call 16; refine (errNum_any _ _).mono ?_; rintro e w' ⟨rfl, rfl⟩)
                    go_ret
                    exact ⟨rfl, hB4'.out⟩
                  · have hne : y0.data.toList ++ Pth.path (rest.map (·.data.toList)) ≠ [] := fun e => by
                      have h1 := (List.append_eq_nil_iff.1 e).2
                      cases hr : rest with
                      | nil =>
                        have h2 := congrArg List.length hx0.out
                        rw [hr, List.length_take] at h2
                        simp at h2
                        omega
                      | cons a b =>
                        rw [hr] at h1
                        simp [Pth.path] at h1
                    have hag := hid (split_again hpl.out (fun e => hne e) h128 hE)
                    have hn4 : 0 < n4 := by
                      have h1 := hT4'.out.len
                      have h2 := hag.out.2
                      omega
                    have hn41 : n4 ≤ 1000 := by
                      have h1 := hT4'.out.len
                      have h2 := splitB_short p
                      omega
                    rw [hE]
                    clear hE hk1 hne
                    go_wp2_with (go_at_call 16; refine (errNum_any _ _).mono ?_; rintro e w' ⟨rfl, rfl⟩)
                    refine (again_any p A4 n4 c4 W4.heap.size (splitB p) hT4'.out hag.out.1 (by omega) (by omega) h128 (fun y hy => Nat.le_trans (pathB_each hy) (by rw [hag.out.1]; exact h128))).mono ?_
                    rintro e w' ⟨rfl, rfl⟩
                    go_wp2_with fail
                    go_ret
                    exact ⟨rfl, hB4'.out⟩
      · have e1 : (k : Int) < (n : Int) := by omega
        have e12 : ¬ (k : Int) < 12 := by omega
        have hmin : min (n : Int) 12 = (k : Int) := by omega
        have hkne : ¬ k = 0 := by omega
        clear hk1 hk2
        by_cases h0 : k = 0
        · exact absurd h0 hkne
        · have h0' : ((k : Int) == 0) = false := by simp; omega
          obtain ⟨x0, rest, hx0⟩ : ∃ x0 rest, xs.take k = x0 :: rest := by
            cases hq : xs.take k with
            | nil =>
              have := congrArg List.length hq
              rw [List.length_take, hlen, List.length_nil] at this
              omega
            | cons a b => exact ⟨a, b, rfl⟩
          have hx0 := hid hx0
          by_cases hall : F = true ∧ k ≤ 8 ∧ p.size ≤ 128
          · obtain ⟨hF1, h8, hs128⟩ := hall
            subst hF1
            have h8' : (k : Int) ≤ 8 := by omega
            have hs' : (p.size : Int) ≤ 128 := by omega
            have hans := hid (split_fine (x := x0) (xs := rest) (hx0.out ▸ hF'.out) (by rw [← hx0.out]; exact Nat.le_trans (List.length_take_le k xs) h8) (by rw [← hx0.out, hp'.out]; exact hs128))
            go_wp2_with fail
            refine (Split_any _ _ (by unfold maxLen; omega)).mono ?_
            rintro e W4 ⟨A4, n4, c4, rfl, hT4, hB4⟩
            have hpe : pathB (x0 :: rest) = p := by rw [← hx0.out]; exact hp'.out
            have hans2 := hans.out
            rw [hpe] at hans2
            rw [hans2.2]
            rw [hans2.1, ← hx0.out] at hT4
            obtain rfl : k = n4 := by
              have := hT4.len
              rw [List.length_take, hlen] at this
              omega
            have hB4' := hid (hB'.out.trans (hB4.mono hB'.out.size))
            have hT4' := hid hT4
            have hX4 := hid ((hX'.out.below hB4'.out).more hB4'.out.size)
            clear hT4 hB4 hans2 hpe
            go_wp2_with (go_at_call 16; refine (errNum_any _ _).mono ?_; rintro e w' ⟨rfl, rfl⟩)
            refine (SameTexts_any A4 k c4 (xs.take k) A c W4.heap.size _ hT4'.out (by omega) (hX4.out.front2 k hk)).mono ?_
            rintro e w5 ⟨rfl, m5, rfl⟩
            go_wp2_with fail
            go_ret
            exact ⟨rfl, below_drewN hB4'.out _⟩
          · cases F with
            | false =>
              go_wp2_with fail
              refine (Split_any _ _ (by unfold maxLen; omega)).mono ?_
              rintro e W4 ⟨A4, n4, c4, rfl, hT4, hB4⟩
              have hpl : p.data.toList = 47 :: (x0.data.toList ++ Pth.path (rest.map (·.data.toList))) := by rw [← hp'.out, hx0.out]; exact pathB_head x0 rest
              have hpl := hid hpl
              have hB4' := hid (hB'.out.trans (hB4.mono hB'.out.size))
              have hT4' := hid hT4
              obtain ⟨q, hqA, hqB, y0, _, hy0, hcy⟩ := ((hX'.out.below hB4'.out)).get (k := 0) (by omega)
              have hy0x : y0 = x0 := by
                have h1 : (xs.take k)[0]? = some y0 := by rw [List.getElem?_take_of_lt (by omega)]; exact hy0
                rw [hx0.out] at h1
                exact (Option.some.inj h1).symm
              subst hy0x
              subst hqA
              have hcy0 : W4.cell? q = some (.string y0) := by simpa [Addr.add] using hcy
              have hn0 : 0 < n := by omega
              have hn0' : (0 : Int) < (n : Int) := by omega
              clear hT4 hB4 hy0 hcy
              by_cases hk1 : k = 1
              · have hk1' : ((k : Int) == 1) = true := by simp; omega
                have hrest : rest = [] := by
                  have h1 := congrArg List.length hx0.out
                  rw [List.length_take, List.length_cons] at h1
                  exact List.eq_nil_of_length_eq_zero (by omega)
                by_cases hy : y0.data.toList = []
                · have hy' : (y0.toList == []) = true := by rw [Lib.toList_data, hy]; rfl
                  have hroot : p.data.toList = [47] := by rw [hpl.out, hy, hrest]; rfl
                  have hE : splitE p = 0 := by unfold splitE; rw [split_root hroot]; rfl
                  have hBB : splitB p = [] := by unfold splitB; rw [split_root hroot]; rfl
                  have hn4 : n4 = 0 := by rw [← hT4'.out.len, hBB]; rfl
                  subst hn4
                  rw [hE]
                  clear hE hBB hroot hy hrest hk1
                  go_wp2_with (go_at_call 16; refine (errNum_any _ _).mono ?_; rintro e w' ⟨rfl, rfl⟩)
                  go_ret
                  exact ⟨rfl, hB4'.out⟩
                · have hy' : (y0.toList == []) = false := by
                    rw [Lib.toList_data]
                    simpa using hy
                  rcases split_none_of p with ⟨hE, hBB⟩ | ⟨hE, h128⟩
                  · have hn4 : n4 = 0 := by rw [← hT4'.out.len, hBB]; rfl
                    subst hn4
                    rw [hE]
                    clear hE hBB hy hrest hk1
                    go_wp2_with (go_at_call 16; refine (errNum_any _ _).mono ?_; rintro e w' ⟨rfl, rfl⟩)
                    go_ret
                    exact ⟨rfl, hB4'.out⟩
                  · have hne : y0.data.toList ++ Pth.path (rest.map (·.data.toList)) ≠ [] := fun e => hy (List.append_eq_nil_iff.1 e).1
                    have hag := hid (split_again hpl.out (fun e => hne e) h128 hE)
                    have hn4 : 0 < n4 := by
                      have h1 := hT4'.out.len
                      have h2 := hag.out.2
                      omega
                    have hn41 : n4 ≤ 1000 := by
                      have h1 := hT4'.out.len
                      have h2 := splitB_short p
                      omega
                    rw [hE]
                    clear hE hy hrest hk1 hne
                    go_wp2_with (go_at_call 16; refine (errNum_any _ _).mono ?_; rintro e w' ⟨rfl, rfl⟩)
                    refine (again_any p A4 n4 c4 W4.heap.size (splitB p) hT4'.out hag.out.1 (by omega) (by omega) h128 (fun y hy => Nat.le_trans (pathB_each hy) (by rw [hag.out.1]; exact h128))).mono ?_
                    rintro e w' ⟨rfl, rfl⟩
                    go_wp2_with fail
                    go_ret
                    exact ⟨rfl, hB4'.out⟩
              · have hk1' : ((k : Int) == 1) = false := by simp; omega
                rcases split_none_of p with ⟨hE, hBB⟩ | ⟨hE, h128⟩
                · have hn4 : n4 = 0 := by rw [← hT4'.out.len, hBB]; rfl
                  subst hn4
                  rw [hE]
                  clear hE hBB hk1
                  go_wp2_with (go_at_call 16; refine (errNum_any _ _).mono ?_; rintro e w' ⟨rfl, rfl⟩)
                  go_ret
                  exact ⟨rfl, hB4'.out⟩
                · have hne : y0.data.toList ++ Pth.path (rest.map (·.data.toList)) ≠ [] := fun e => by
                    have h1 := (List.append_eq_nil_iff.1 e).2
                    cases hr : rest with
                    | nil =>
                      have h2 := congrArg List.length hx0.out
                      rw [hr, List.length_take] at h2
                      simp at h2
                      omega
                    | cons a b =>
                      rw [hr] at h1
                      simp [Pth.path] at h1
                  have hag := hid (split_again hpl.out (fun e => hne e) h128 hE)
                  have hn4 : 0 < n4 := by
                    have h1 := hT4'.out.len
                    have h2 := hag.out.2
                    omega
                  have hn41 : n4 ≤ 1000 := by
                    have h1 := hT4'.out.len
                    have h2 := splitB_short p
                    omega
                  rw [hE]
                  clear hE hk1 hne
                  go_wp2_with (go_at_call 16; refine (errNum_any _ _).mono ?_; rintro e w' ⟨rfl, rfl⟩)
                  refine (again_any p A4 n4 c4 W4.heap.size (splitB p) hT4'.out hag.out.1 (by omega) (by omega) h128 (fun y hy => Nat.le_trans (pathB_each hy) (by rw [hag.out.1]; exact h128))).mono ?_
                  rintro e w' ⟨rfl, rfl⟩
                  go_wp2_with fail
                  go_ret
                  exact ⟨rfl, hB4'.out⟩
            | true =>
              by_cases h8 : k ≤ 8
              · have h8' : (k : Int) ≤ 8 := by omega
                have hs' : ¬ (p.size : Int) ≤ 128 := fun e => hall ⟨rfl, h8, by omega⟩
                go_wp2_with fail
                refine (Split_any _ _ (by unfold maxLen; omega)).mono ?_
                rintro e W4 ⟨A4, n4, c4, rfl, hT4, hB4⟩
                have hpl : p.data.toList = 47 :: (x0.data.toList ++ Pth.path (rest.map (·.data.toList))) := by rw [← hp'.out, hx0.out]; exact pathB_head x0 rest
                have hpl := hid hpl
                have hB4' := hid (hB'.out.trans (hB4.mono hB'.out.size))
                have hT4' := hid hT4
                obtain ⟨q, hqA, hqB, y0, _, hy0, hcy⟩ := ((hX'.out.below hB4'.out)).get (k := 0) (by omega)
                have hy0x : y0 = x0 := by
                  have h1 : (xs.take k)[0]? = some y0 := by rw [List.getElem?_take_of_lt (by omega)]; exact hy0
                  rw [hx0.out] at h1
                  exact (Option.some.inj h1).symm
                subst hy0x
                subst hqA
                have hcy0 : W4.cell? q = some (.string y0) := by simpa [Addr.add] using hcy
                have hn0 : 0 < n := by omega
                have hn0' : (0 : Int) < (n : Int) := by omega
                clear hT4 hB4 hy0 hcy
                by_cases hk1 : k = 1
                · have hk1' : ((k : Int) == 1) = true := by simp; omega
                  have hrest : rest = [] := by
                    have h1 := congrArg List.length hx0.out
                    rw [List.length_take, List.length_cons] at h1
                    exact List.eq_nil_of_length_eq_zero (by omega)
                  by_cases hy : y0.data.toList = []
                  · have hy' : (y0.toList == []) = true := by rw [Lib.toList_data, hy]; rfl
                    have hroot : p.data.toList = [47] := by rw [hpl.out, hy, hrest]; rfl
                    have hE : splitE p = 0 := by unfold splitE; rw [split_root hroot]; rfl
                    have hBB : splitB p = [] := by unfold splitB; rw [split_root hroot]; rfl
                    have hn4 : n4 = 0 := by rw [← hT4'.out.len, hBB]; rfl
                    subst hn4
                    rw [hE]
                    clear hE hBB hroot hy hrest hk1
                    go_wp2_with (go_at_call 16; refine (errNum_any _ _).mono ?_; rintro e w' ⟨rfl, rfl⟩)
                    go_ret
                    exact ⟨rfl, hB4'.out⟩
                  · have hy' : (y0.toList == []) = false := by
                      rw [Lib.toList_data]
                      simpa using hy
                    rcases split_none_of p with ⟨hE, hBB⟩ | ⟨hE, h128⟩
                    · have hn4 : n4 = 0 := by rw [← hT4'.out.len, hBB]; rfl
                      subst hn4
                      rw [hE]
                      clear hE hBB hy hrest hk1
                      go_wp2_with (go_at_call 16; refine (errNum_any _ _).mono ?_; rintro e w' ⟨rfl, rfl⟩)
                      go_ret
                      exact ⟨rfl, hB4'.out⟩
                    · have hne : y0.data.toList ++ Pth.path (rest.map (·.data.toList)) ≠ [] := fun e => hy (List.append_eq_nil_iff.1 e).1
                      have hag := hid (split_again hpl.out (fun e => hne e) h128 hE)
                      have hn4 : 0 < n4 := by
                        have h1 := hT4'.out.len
                        have h2 := hag.out.2
                        omega
                      have hn41 : n4 ≤ 1000 := by
                        have h1 := hT4'.out.len
                        have h2 := splitB_short p
                        omega
                      rw [hE]
                      clear hE hy hrest hk1 hne
                      go_wp2_with (go_at_call 16; refine (errNum_any _ _).mono ?_; rintro e w' ⟨rfl, rfl⟩)
                      refine (again_any p A4 n4 c4 W4.heap.size (splitB p) hT4'.out hag.out.1 (by omega) (by omega) h128 (fun y hy => Nat.le_trans (pathB_each hy) (by rw [hag.out.1]; exact h128))).mono ?_
                      rintro e w' ⟨rfl, rfl⟩
                      go_wp2_with fail
                      go_ret
                      exact ⟨rfl, hB4'.out⟩
                · have hk1' : ((k : Int) == 1) = false := by simp; omega
                  rcases split_none_of p with ⟨hE, hBB⟩ | ⟨hE, h128⟩
                  · have hn4 : n4 = 0 := by rw [← hT4'.out.len, hBB]; rfl
                    subst hn4
                    rw [hE]
                    clear hE hBB hk1
                    go_wp2_with (go_at_call 16; refine (errNum_any _ _).mono ?_; rintro e w' ⟨rfl, rfl⟩)
                    go_ret
                    exact ⟨rfl, hB4'.out⟩
                  · have hne : y0.data.toList ++ Pth.path (rest.map (·.data.toList)) ≠ [] := fun e => by
                      have h1 := (List.append_eq_nil_iff.1 e).2
                      cases hr : rest with
                      | nil =>
                        have h2 := congrArg List.length hx0.out
                        rw [hr, List.length_take] at h2
                        simp at h2
                        omega
                      | cons a b =>
                        rw [hr] at h1
                        simp [Pth.path] at h1
                    have hag := hid (split_again hpl.out (fun e => hne e) h128 hE)
                    have hn4 : 0 < n4 := by
                      have h1 := hT4'.out.len
                      have h2 := hag.out.2
                      omega
                    have hn41 : n4 ≤ 1000 := by
                      have h1 := hT4'.out.len
                      have h2 := splitB_short p
                      omega
                    rw [hE]
                    clear hE hk1 hne
                    go_wp2_with (go_at_call 16; refine (errNum_any _ _).mono ?_; rintro e w' ⟨rfl, rfl⟩)
                    refine (again_any p A4 n4 c4 W4.heap.size (splitB p) hT4'.out hag.out.1 (by omega) (by omega) h128 (fun y hy => Nat.le_trans (pathB_each hy) (by rw [hag.out.1]; exact h128))).mono ?_
                    rintro e w' ⟨rfl, rfl⟩
                    go_wp2_with fail
                    go_ret
                    exact ⟨rfl, hB4'.out⟩
              · have h8' : ¬ (k : Int) ≤ 8 := by omega
                go_wp2_with fail
                refine (Split_any _ _ (by unfold maxLen; omega)).mono ?_
                rintro e W4 ⟨A4, n4, c4, rfl, hT4, hB4⟩
                have hpl : p.data.toList = 47 :: (x0.data.toList ++ Pth.path (rest.map (·.data.toList))) := by rw [← hp'.out, hx0.out]; exact pathB_head x0 rest
                have hpl := hid hpl
                have hB4' := hid (hB'.out.trans (hB4.mono hB'.out.size))
                have hT4' := hid hT4
                obtain ⟨q, hqA, hqB, y0, _, hy0, hcy⟩ := ((hX'.out.below hB4'.out)).get (k := 0) (by omega)
                have hy0x : y0 = x0 := by
                  have h1 : (xs.take k)[0]? = some y0 := by rw [List.getElem?_take_of_lt (by omega)]; exact hy0
                  rw [hx0.out] at h1
                  exact (Option.some.inj h1).symm
                subst hy0x
                subst hqA
                have hcy0 : W4.cell? q = some (.string y0) := by simpa [Addr.add] using hcy
                have hn0 : 0 < n := by omega
                have hn0' : (0 : Int) < (n : Int) := by omega
                clear hT4 hB4 hy0 hcy
                by_cases hk1 : k = 1
                · have hk1' : ((k : Int) == 1) = true := by simp; omega
                  have hrest : rest = [] := by
                    have h1 := congrArg List.length hx0.out
                    rw [List.length_take, List.length_cons] at h1
                    exact List.eq_nil_of_length_eq_zero (by omega)
                  by_cases hy : y0.data.toList = []
                  · have hy' : (y0.toList == []) = true := by rw [Lib.toList_data, hy]; rfl
                    have hroot : p.data.toList = [47] := by rw [hpl.out, hy, hrest]; rfl
                    have hE : splitE p = 0 := by unfold splitE; rw [split_root hroot]; rfl
                    have hBB : splitB p = [] := by unfold splitB; rw [split_root hroot]; rfl
                    have hn4 : n4 = 0 := by rw [← hT4'.out.len, hBB]; rfl
                    subst hn4
                    rw [hE]
                    clear hE hBB hroot hy hrest hk1
                    go_wp2_with (go_at_call 16; refine (errNum_any _ _).mono ?_; rintro e w' ⟨rfl, rfl⟩)
                    go_ret
                    exact ⟨rfl, hB4'.out⟩
                  · have hy' : (y0.toList == []) = false := by
                      rw [Lib.toList_data]
                      simpa using hy
                    rcases split_none_of p with ⟨hE, hBB⟩ | ⟨hE, h128⟩
                    · have hn4 : n4 = 0 := by rw [← hT4'.out.len, hBB]; rfl
                      subst hn4
                      rw [hE]
                      clear hE hBB hy hrest hk1
                      go_wp2_with (go_at_call 16; refine (errNum_any _ _).mono ?_; rintro e w' ⟨rfl, rfl⟩)
                      go_ret
                      exact ⟨rfl, hB4'.out⟩
                    · have hne : y0.data.toList ++ Pth.path (rest.map (·.data.toList)) ≠ [] := fun e => hy (List.append_eq_nil_iff.1 e).1
                      have hag := hid (split_again hpl.out (fun e => hne e) h128 hE)
                      have hn4 : 0 < n4 := by
                        have h1 := hT4'.out.len
                        have h2 := hag.out.2
                        omega
                      have hn41 : n4 ≤ 1000 := by
                        have h1 := hT4'.out.len
                        have h2 := splitB_short p
                        omega
                      rw [hE]
                      clear hE hy hrest hk1 hne
                      go_wp2_with (go_at_call 16; refine (errNum_any _ _).mono ?_; rintro e w' ⟨rfl, rfl⟩)
                      refine (again_any p A4 n4 c4 W4.heap.size (splitB p) hT4'.out hag.out.1 (by omega) (by omega) h128 (fun y hy => Nat.le_trans (pathB_each hy) (by rw [hag.out.1]; exact h128))).mono ?_
                      rintro e w' ⟨rfl, rfl⟩
                      go_wp2_with fail
                      go_ret
                      exact ⟨rfl, hB4'.out⟩
                · have hk1' : ((k : Int) == 1) = false := by simp; omega
                  rcases split_none_of p with ⟨hE, hBB⟩ | ⟨hE, h128⟩
                  · have hn4 : n4 = 0 := by rw [← hT4'.out.len, hBB]; rfl
                    subst hn4
                    rw [hE]
                    clear hE hBB hk1
                    go_wp2_with (go_at_call 16; refine (errNum_any _ _).mono ?_; rintro e w' ⟨rfl, rfl⟩)
                    go_ret
                    exact ⟨rfl, hB4'.out⟩
                  · have hne : y0.data.toList ++ Pth.path (rest.map (·.data.toList)) ≠ [] := fun e => by
                      have h1 := (List.append_eq_nil_iff.1 e).2
                      cases hr : rest with
                      | nil =>
                        have h2 := congrArg List.length hx0.out
                        rw [hr, List.length_take] at h2
                        simp at h2
                        omega
                      | cons a b =>
                        rw [hr] at h1
                        simp [Pth.path] at h1
                    have hag := hid (split_again hpl.out (fun e => hne e) h128 hE)
                    have hn4 : 0 < n4 := by
                      have h1 := hT4'.out.len
                      have h2 := hag.out.2
                      omega
                    have hn41 : n4 ≤ 1000 := by
                      have h1 := hT4'.out.len
                      have h2 := splitB_short p
                      omega
                    rw [hE]
                    clear hE hk1 hne
                    go_wp2_with (go_at_call 16; refine (errNum_any _ _).mono ?_; rintro e w' ⟨rfl, rfl⟩)
                    refine (again_any p A4 n4 c4 W4.heap.size (splitB p) hT4'.out hag.out.1 (by omega) (by omega) h128 (fun y hy => Nat.le_trans (pathB_each hy) (by rw [hag.out.1]; exact h128))).mono ?_
                    rintro e w' ⟨rfl, rfl⟩
                    go_wp2_with fail
                    go_ret
                    exact ⟨rfl, hB4'.out⟩

end Go.Proofs.Ytapegklffglnoaa
