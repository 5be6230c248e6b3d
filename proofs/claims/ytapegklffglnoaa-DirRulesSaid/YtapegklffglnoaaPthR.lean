/- Layer 16: the document's answer: names, paths. -/
import Derived.Test.YtapegklffglnoaaPthB
import Derived.Test.YtapegklffglnoaaNum0
import Derived.Deep.QuietTactic
import Derived.BigQuiet
namespace Go.Proofs.Ytapegklffglnoaa
open Go.RowKit

theorem data_at {s : ByteArray} {k : Nat} (h : k < s.size) : s.data.toList[k]? = some s[k] := Lib.data_getElem? s k h

theorem take_succ_all {p : UInt8 → Prop} {l : List UInt8} {k : Nat} {c : UInt8} (h : ∀ x ∈ l.take k, p x) (hk : l[k]? = some c) (hc : p c) : ∀ x ∈ l.take (k + 1), p x := fun x hx => by
  rw [List.take_add_one, hk] at hx
  rcases List.mem_append.1 hx with hx | hx
  · exact h x hx
  · have : x = c := by simpa using hx
    rw [this]
    exact hc

theorem byte_eq {c : UInt8} (d : UInt8) : ((c.toNat : Int) == (d.toNat : Int)) = decide (c = d) := by
  by_cases h : c = d
  · rw [h]; simp
  · rw [decide_eq_false h]
    simp
    intro e
    exact h (UInt8.toNat_inj.1 (by omega))

set_option maxRecDepth 100000 in
set_option maxHeartbeats 2000000 in
theorem refNameMay_any (s : ByteArray) (w : World) (hs : s.size ≤ maxLen) :
    Calls Try.prog 18 #[.string s] w fun e w' => e = .returned (.bool (Pth.nameOk s.data.toList)) ∧ w = w' := by
  unfold maxLen at hs
  rw [nameOk_iff]
  by_cases h1 : 1 ≤ s.size
  · have h1' : ¬ (s.size : Int) < 1 := by omega
    by_cases h2 : s.size ≤ 24
    · have h2' : ¬ (24 : Int) < (s.size : Int) := by omega
      by_cases h3 : s.toList = [46]
      · rw [decide_eq_false (fun h => h.2.2.1 h3)]
        have h3' : (s.toList == [46]) = true := by simp [h3]
        clear h3
        go_enter Try.func18, Try.ntmps18
        go_wp2
        go_ret
        exact ⟨rfl, rfl⟩
      · have h3' : (s.toList == [46]) = false := by simp [h3]
        by_cases h4 : s.toList = [46, 46]
        · rw [decide_eq_false (fun h => h.2.2.2.1 h4)]
          have h4' : (s.toList == [46, 46]) = true := by simp [h4]
          clear h3 h4
          go_enter Try.func18, Try.ntmps18
          go_wp2
          go_ret
          exact ⟨rfl, rfl⟩
        · have h4' : (s.toList == [46, 46]) = false := by simp [h4]
          have hans := hid (fun b (h : b = decide (¬ ∃ c ∈ s.data.toList, c = 47 ∨ c = 0)) => (show decide (1 ≤ s.size ∧ s.size ≤ 24 ∧ s.toList ≠ [46] ∧ s.toList ≠ [46, 46] ∧ ¬ ∃ c ∈ s.data.toList, c = 47 ∨ c = 0) = b by
            rw [h]
            exact decide_eq_decide.2 ⟨fun h => h.2.2.2.2, fun h => ⟨h1, h2, h3, h4, h⟩⟩))
          clear h3 h4
          obtain ⟨B, hB⟩ : ∃ B, decide (1 ≤ s.size ∧ s.size ≤ 24 ∧ s.toList ≠ [46] ∧ s.toList ≠ [46, 46] ∧ ¬ ∃ c ∈ s.data.toList, c = 47 ∨ c = 0) = B := ⟨_, rfl⟩
          rw [hB]
          have hB' := hid hB
          clear hB
          go_enter Try.func18, Try.ntmps18
          go_wp2
          go_loop [3] (fun i => ∃ k : Nat, k ≤ s.size ∧ i = .int .i64 (k : Int) ∧ ∀ c ∈ s.data.toList.take k, ¬ (c = 47 ∨ c = 0)) (fun i => s.size - (intOf i).toNat)
          case atStart => exact ⟨0, Nat.zero_le _, rfl, fun c hc => by simp at hc⟩
          case round =>
            obtain ⟨k, hk, rfl, hno⟩ := hrel
            have hno' := hid hno
            clear hno
            by_cases hlt : k < s.size
            · have hlt' : (k : Int) < (s.size : Int) := by omega
              obtain ⟨c, hc⟩ : ∃ c, s[k]'hlt = c := ⟨_, rfl⟩
              have hat := hid ((data_at hlt).trans (congrArg some hc))
              by_cases hc47 : c = 47
              · have e1 : ((c.toNat : Int) == 47) = true := by rw [hc47]; rfl
                have hfin : B = false := by
                  rw [← hB'.out]
                  exact decide_eq_false fun h => h.2.2.2.2 ⟨c, List.mem_of_getElem? hat.out, .inl hc47⟩
                subst hfin
                clear hc47
                go_wp2
                go_ret
                exact ⟨rfl, rfl⟩
              · have e1 : ((c.toNat : Int) == 47) = false := by rw [show (47 : Int) = ((47 : UInt8).toNat : Int) from rfl, byte_eq]; exact decide_eq_false hc47
                by_cases hc0 : c = 0
                · have e2 : ((c.toNat : Int) == 0) = true := by rw [hc0]; rfl
                  have hfin : B = false := by
                    rw [← hB'.out]
                    exact decide_eq_false fun h => h.2.2.2.2 ⟨c, List.mem_of_getElem? hat.out, .inr hc0⟩
                  subst hfin
                  clear hc0 hc47
                  go_wp2
                  go_ret
                  exact ⟨rfl, rfl⟩
                · have e2 : ((c.toNat : Int) == 0) = false := by rw [show (0 : Int) = ((0 : UInt8).toNat : Int) from rfl, byte_eq]; exact decide_eq_false hc0
                  have hnx := hid (take_succ_all hno'.out hat.out (fun h => h.elim hc47 hc0))
                  clear hc0 hc47
                  go_wp2
                  go_round
                  case rel => exact ⟨k + 1, by omega, by go_num, hnx.out⟩
                  case measure => simp [intOf]; omega
            · obtain rfl : k = s.size := by omega
              have hfin : B = true := by
                rw [← hB'.out]
                refine hans.out true ((decide_eq_true ?_).symm)
                rintro ⟨c, hc, h⟩
                exact hno'.out c (by rw [List.take_of_length_le (by rw [data_length]; exact Nat.le_refl _)]; exact hc) h
              subst hfin
              go_wp2
              go_ret
              exact ⟨rfl, rfl⟩
    · rw [decide_eq_false (fun h => h2 h.2.1)]
      have h2' : (24 : Int) < (s.size : Int) := by omega
      go_enter Try.func18, Try.ntmps18
      go_wp2
      go_ret
      exact ⟨rfl, rfl⟩
  · rw [decide_eq_false (fun h => h1 h.1)]
    have h1' : (s.size : Int) < 1 := by omega
    go_enter Try.func18, Try.ntmps18
    go_wp2
    go_ret
    exact ⟨rfl, rfl⟩

/-! The document's Split. -/

/-- Of a text l: xs have come, each a name, and what stands from place 'frm' on is to come; no slash stands between frm and i. -/
structure SplAt (l : List UInt8) (xs : List ByteArray) (frm i : Nat) : Prop where
  le : frm ≤ i
  le2 : i ≤ l.length
  clean : ∀ c ∈ (l.drop frm).take (i - frm), c ≠ 47
  come : xs.map (·.data.toList) ++ Pth.pieces (l.drop frm) = Pth.pieces (l.drop 1)
  fine : ∀ x ∈ xs, Pth.nameOk x.data.toList = true

theorem SplAt.start (l : List UInt8) (h : 1 ≤ l.length) : SplAt l [] 1 1 := ⟨Nat.le_refl _, h, (fun c hc => by simp at hc), rfl, fun x hx => by cases hx⟩

theorem SplAt.step {l : List UInt8} {xs : List ByteArray} {frm i : Nat} {c : UInt8} (h : SplAt l xs frm i) (hc : l[i]? = some c) (hn : c ≠ 47) : SplAt l xs frm (i + 1) := by
  have hi : i < l.length := (List.getElem?_eq_some_iff.1 hc).1
  refine ⟨by have := h.le; omega, hi, ?_, h.come, h.fine⟩
  have e : i + 1 - frm = (i - frm) + 1 := by have := h.le; omega
  rw [e]
  refine take_succ_all h.clean ?_ hn
  rw [List.getElem?_drop]
  have e2 : frm + (i - frm) = i := by have := h.le; omega
  rw [e2]
  exact hc

/-- At a slash: one piece more. -/
theorem SplAt.slash {l : List UInt8} {xs : List ByteArray} {frm i : Nat} (h : SplAt l xs frm i) (hc : l[i]? = some 47) :
    Pth.pieces (l.drop frm) = (l.drop frm).take (i - frm) :: Pth.pieces (l.drop (i + 1)) := by
  have hi : i < l.length := (List.getElem?_eq_some_iff.1 hc).1
  have hle := h.le
  have e : l.drop frm = (l.drop frm).take (i - frm) ++ 47 :: l.drop (i + 1) := by
    have h1 : l.drop frm = (l.drop frm).take (i - frm) ++ (l.drop frm).drop (i - frm) := (List.take_append_drop _ _).symm
    rw [List.drop_drop] at h1
    have e2 : frm + (i - frm) = i := by omega
    rw [e2, List.drop_eq_getElem_cons hi] at h1
    have e3 : l[i] = 47 := by
      rw [List.getElem?_eq_getElem hi] at hc
      exact Option.some.inj hc
    rw [e3] at h1
    exact h1
  rw [e, Pth.pieces_some _ _ h.clean]
  rw [← e]

theorem SplAt.next {l : List UInt8} {xs : List ByteArray} {frm i : Nat} (h : SplAt l xs frm i) (hc : l[i]? = some 47) (x : ByteArray) (hx : x.data.toList = (l.drop frm).take (i - frm)) (hok : Pth.nameOk x.data.toList = true) :
    SplAt l (xs ++ [x]) (i + 1) (i + 1) := by
  have hi : i < l.length := (List.getElem?_eq_some_iff.1 hc).1
  refine ⟨Nat.le_refl _, hi, (fun c hc => by simp at hc), ?_, ?_⟩
  · rw [← h.come, h.slash hc, List.map_append, List.map_cons, List.map_nil, hx, List.append_assoc]
    rfl
  · intro y hy
    rcases List.mem_append.1 hy with hy | hy
    · exact h.fine y hy
    · rw [List.mem_singleton.1 hy]
      exact hok

/-- At the end: all pieces. -/
theorem SplAt.last {l : List UInt8} {xs : List ByteArray} {frm : Nat} (h : SplAt l xs frm l.length) : Pth.pieces (l.drop 1) = xs.map (·.data.toList) ++ [l.drop frm] := by
  rw [← h.come]
  congr 1
  refine Pth.pieces_none _ ?_
  have := h.clean
  rwa [List.take_of_length_le (by rw [List.length_drop]; exact Nat.le_refl _)] at this

theorem SplAt.many {l : List UInt8} {xs : List ByteArray} {frm i : Nat} (h : SplAt l xs frm i) : xs.length < (Pth.pieces (l.drop 1)).length := by
  have h1 := congrArg List.length h.come
  rw [List.length_append, List.length_map] at h1
  have h2 := Pth.pieces_ne (l.drop frm)
  have h3 : (Pth.pieces (l.drop frm)).length ≠ 0 := fun e => h2 (List.eq_nil_of_length_eq_zero e)
  omega

theorem SplAt.bad {l : List UInt8} {xs : List ByteArray} {frm i : Nat} (h : SplAt l xs frm i) (hc : l[i]? = some 47 ∨ i = l.length) (x : List UInt8) (hx : x = (l.drop frm).take (i - frm)) (hok : Pth.nameOk x = false) : ¬ ∀ p ∈ Pth.pieces (l.drop 1), Pth.nameOk p = true := by
  intro hall
  have hm : x ∈ Pth.pieces (l.drop 1) := by
    rcases hc with hc | rfl
    · rw [← h.come, h.slash hc, hx]
      simp
    · rw [h.last, hx, List.take_of_length_le (by rw [List.length_drop]; exact Nat.le_refl _)]
      simp
  rw [hall x hm] at hok
  cases hok

theorem extract_part (s : ByteArray) (a b : Nat) : (s.extract a b).data.toList = (s.data.toList.drop a).take (b - a) := by rw [Lib.extract_eq]

/-- Where the document's loop stands. -/
def SplLoop (l : List UInt8) (xs : List ByteArray) (frm i : Nat) : Prop :=
  (i ≤ l.length ∧ SplAt l xs frm i) ∨ (i = l.length + 1 ∧ frm = i ∧ Pth.pieces (l.drop 1) = xs.map (·.data.toList) ∧ ∀ x ∈ xs, Pth.nameOk x.data.toList = true)

theorem split_many {s : ByteArray} {l : List UInt8} (h : s.data.toList = 47 :: l) (hs : s.size ≤ 128) (hl : l ≠ []) (hb : ¬ ((∀ p ∈ Pth.pieces l, Pth.nameOk p = true) ∧ (Pth.pieces l).length ≤ 8)) : Pth.split s.data.toList = none := by
  rw [split_some h hs hl, if_neg hb]

theorem split_head0 {s : ByteArray} {c : UInt8} (hc : s.data.toList[0]? = some c) (hn : c ≠ 47) : Pth.split s.data.toList = none := by
  unfold Pth.split
  rw [if_neg]
  rintro ⟨_, e⟩
  rw [List.head?_eq_getElem?, hc] at e
  exact hn (Option.some.inj e)

theorem split_empty {s : ByteArray} (h : s.size = 0) : Pth.split s.data.toList = none := by
  have e : s.data.toList = [] := List.eq_nil_of_length_eq_zero (by rw [data_length]; exact h)
  unfold Pth.split
  rw [e, if_neg (fun h => by cases h.2)]

theorem SplAt.end_ {l : List UInt8} {xs : List ByteArray} {frm i : Nat} (h : SplAt l xs frm i) (hi : i = l.length) (x : ByteArray) (hx : x.data.toList = (l.drop frm).take (i - frm)) (hok : Pth.nameOk x.data.toList = true) :
    Pth.pieces (l.drop 1) = (xs ++ [x]).map (·.data.toList) ∧ ∀ y ∈ xs ++ [x], Pth.nameOk y.data.toList = true := by
  subst hi
  refine ⟨?_, fun y hy => ?_⟩
  · rw [h.last, List.map_append, List.map_cons, List.map_nil, hx, List.take_of_length_le (by rw [List.length_drop]; exact Nat.le_refl _)]
  · rcases List.mem_append.1 hy with hy | hy
    · exact h.fine y hy
    · rw [List.mem_singleton.1 hy]
      exact hok

theorem split_all {s : ByteArray} {l : List UInt8} {ys : List ByteArray} (h : Pth.split s.data.toList = if (∀ p ∈ Pth.pieces l, Pth.nameOk p = true) ∧ (Pth.pieces l).length ≤ 8 then some (Pth.pieces l) else none)
    (hy : Pth.pieces l = ys.map (·.data.toList)) (hok : ∀ x ∈ ys, Pth.nameOk x.data.toList = true) (h8 : ys.length ≤ 8) : splitB s = ys ∧ splitE s = 0 := by
  have e : Pth.split s.data.toList = some (ys.map (·.data.toList)) := by
    rw [h, hy, if_pos]
    refine ⟨fun p hp => ?_, by rw [List.length_map]; exact h8⟩
    obtain ⟨x, hx, rfl⟩ := List.mem_map.1 hp
    exact hok x hx
  refine ⟨?_, by unfold splitE; rw [e]; rfl⟩
  unfold splitB
  rw [e]
  show (ys.map (·.data.toList)).map _ = _
  rw [List.map_map]
  exact (List.map_congr_left (fun x _ => rfl)).trans (List.map_id _)

set_option maxRecDepth 100000 in
set_option maxHeartbeats 4000000 in
theorem refSplit_any (s : ByteArray) (w : World) (hs : s.size ≤ maxLen) :
    Calls Try.prog 14 #[.string s] w (SplitPost s w) := by
  unfold maxLen at hs
  by_cases h1 : 128 < s.size
  · have h1' : (128 : Int) < (s.size : Int) := by omega
    go_enter Try.func14, Try.ntmps14
    go_wp2
    go_ret2
    exact split_bad_post (split_bad h1) rfl (Below.refl _ _)
  · have h1' : ¬ (128 : Int) < (s.size : Int) := by omega
    by_cases h0 : s.size = 0
    · have h0' : (s.toList == []) = true := by
        rw [Lib.toList_data, List.eq_nil_of_length_eq_zero (l := s.data.toList) (by rw [data_length]; exact h0)]
        rfl
      have h0'' := hid h0
      clear h0
      go_enter Try.func14, Try.ntmps14
      go_wp2
      go_ret2
      exact split_bad_post (split_empty h0''.out) rfl (Below.refl _ _)
    · have h0' : (s.toList == []) = false := by
        rw [Lib.toList_data]
        cases hl : s.data.toList with
        | nil =>
          have := data_length s
          rw [hl] at this
          exact absurd this.symm h0
        | cons _ _ => rfl
      have hlt0 : 0 < s.size := by omega
      obtain ⟨c0, hc0⟩ : ∃ c, s[0]'hlt0 = c := ⟨_, rfl⟩
      have hat0 := (data_at hlt0).trans (congrArg some hc0)
      by_cases h47 : c0 = 47
      · have e1 : ((c0.toNat : Int) != 47) = false := by rw [h47]; rfl
        obtain ⟨l, hl⟩ : ∃ l, s.data.toList = 47 :: l := by
          cases hl : s.data.toList with
          | nil => rw [hl] at hat0; cases hat0
          | cons c l =>
            rw [hl] at hat0
            have : c = c0 := by simpa using hat0
            exact ⟨l, by rw [this, h47]⟩
        by_cases h3 : l = []
        · have h3' : (s.toList == [47]) = true := by rw [Lib.toList_data, hl, h3]; rfl
          have hl' := hid hl
          subst h3
          clear hl hat0 h47 h0
          go_enter Try.func14, Try.ntmps14
          go_wp2
          go_ret2
          exact ⟨none, 0, 0, by unfold splitE; rw [split_root hl'.out]; rfl, by unfold splitB; rw [split_root hl'.out]; exact ⟨rfl, .inl rfl⟩, Below.refl _ _⟩
        · have h3' : (s.toList == [47]) = false := by
            rw [Lib.toList_data, hl]
            simpa using h3
          have hd1 : s.data.toList.drop 1 = l := by rw [hl]; rfl
          have hsp := hid (split_some hl (by omega) h3)
          have hd1' := hid hd1
          have hlen := data_length s
          have hlen' := hid hlen
          have hstart := hid (SplAt.start s.data.toList (by omega))
          obtain ⟨i0, hi, hz0, hz1, hz2⟩ := info_parts info_string
          have hi' := hid hi
          have hz0' := hid hz0
          have hz1' := hid hz1
          have hz2' := hid hz2
          clear hl hat0 h47 h0 h3 hd1 hlen hi hz0 hz1 hz2
          go_enter Try.func14, Try.ntmps14
          go_wp2_with fail
          go_loopw [4, 5, 6] (fun o f i wr => ∃ (xs : List ByteArray) (A : Option Addr) (c frm k : Nat), o = .slice A xs.length c ∧ f = .int .i64 (frm : Int) ∧ i = .int .i64 (k : Int) ∧ wr.ownsRow w.heap.size 9 1 (.slice A xs.length c) xs.length (strs xs) ∧ Below w.heap.size w wr ∧ k ≤ s.size + 1 ∧ SplLoop s.data.toList xs frm k) (fun _ _ i _ => s.size + 1 - (intOf i).toNat)
          case atStart => exact ⟨[], none, 0, 1, 1, rfl, rfl, rfl, World.ownsRow_nil _ _ _ _, Below.refl _ _, by omega, .inl ⟨by rw [hlen'.out]; omega, hstart.out⟩⟩
          case round =>
            obtain ⟨xs, A, c, frm, k, rfl, rfl, rfl, hrow, hB, hks, hloop⟩ := hrel
            by_cases hk : k ≤ s.size
            · have hat : SplAt s.data.toList xs frm k := by
                rcases hloop with h | h
                · exact h.2
                · have := h.1
                  have := hlen'.out
                  omega
              have hfk := hat.le
              have hxl : xs.length ≤ 200 := by
                have h1 := hat.many
                have h2 := Pth.pieces_short (s.data.toList.drop 1)
                rw [List.length_drop, hlen'.out] at h2
                omega
              have hat' := hid hat
              have hk' : (k : Int) ≤ (s.size : Int) := by omega
              have hfk' : (frm : Int) ≤ (k : Int) := by omega
              have hrow' := hid hrow
              have hB' := hid hB
              clear hat hloop hrow hB
              by_cases hlt : k < s.size
              · have hlt' : (k : Int) < (s.size : Int) := by omega
                obtain ⟨c1, hc1⟩ : ∃ c, s[k]'hlt = c := ⟨_, rfl⟩
                have hatk := hid ((data_at hlt).trans (congrArg some hc1))
                by_cases hc47 : c1 = 47
                · have e2 : ((c1.toNat : Int) != 47) = false := by rw [hc47]; rfl
                  have h47 := hid (show s.data.toList[k]? = some 47 from hc47 ▸ hatk.out)
                  clear hc47
                  obtain ⟨x, hx⟩ : ∃ x, s.extract frm k = x := ⟨_, rfl⟩
                  have hxd : x.data.toList = (s.data.toList.drop frm).take (k - frm) := by rw [← hx, extract_part]
                  have hxs : x.size ≤ 128 := by rw [← hx, ByteArray.size_extract]; omega
                  have hn := refNameMay_any x
                  cases hnm : Pth.nameOk x.data.toList with
                  | false =>
                    rw [hnm] at hn
                    have hn' := hid hn
                    have hpost := hid (split_bad_post (w := w) (w' := wr) (v := .tuple #[.slice none 0 0, .int .i64 1600]) (by rw [hsp.out, if_neg (fun h => hat'.out.bad (.inl h47.out) _ hxd hnm (hd1'.out ▸ h.1))]) rfl hB'.out)
                    have hxe := hid hx
                    clear hn hnm hxd hx
                    go_wp2_with (go_at_call 18; rw [hxe.out]; refine (hn'.out _ (by unfold maxLen; omega)).mono ?_; rintro e w' ⟨rfl, rfl⟩)
                    go_ret2
                    exact hpost.out
                  | true =>
                    rw [hnm] at hn
                    have hn' := hid hn
                    have hnm' := hid hnm
                    have hxd' := hid hxd
                    have hxe := hid hx
                    clear hn hnm hxd hx
                    go_wp2_with (first
                      | (go_at_call 18; rw [hxe.out]; refine (hn'.out _ (by unfold maxLen; omega)).mono ?_; rintro e w' ⟨rfl, rfl⟩)
                      | ((with_reducible refine at_slot (some 49) ?_); rw [hxe.out]; refine wpList_push rfl (.tmp 43) (.tmp 48) 22 9 rfl w.heap.size i0 (.string ByteArray.empty) 16 Try.underlying22 hi'.out hz0'.out hz1'.out hz2'.out rfl (by decide) A xs.length c (strs xs) wr.heap.size (.string x) rfl rfl rfl (by omega) (hrow'.out.alloc _) (by simp) (by have := hB'.out.size; simp; omega) ?_; intro A' c' w1 hown' hB1 hgrow; have hown2 := hid hown'; have hB12 := hid hB1; clear hown' hB1 hgrow))
                    go_roundw
                    case rel => exact ⟨xs ++ [x], A', c', k + 1, k + 1, by rw [List.length_append]; rfl, by go_num, by go_num, by rw [List.length_append, strs_append]; exact hown2.out, (hB'.out.alloc hB'.out.size _).trans hB12.out, by omega, .inl ⟨by rw [hlen'.out]; omega, hat'.out.next h47.out x hxd'.out hnm'.out⟩⟩
                    case measure => simp [intOf]; omega
                · have e2 : ((c1.toNat : Int) != 47) = true := by
                    rw [show (47 : Int) = ((47 : UInt8).toNat : Int) from rfl]
                    unfold bne
                    rw [byte_eq, decide_eq_false hc47]
                    rfl
                  have hst := hid (hat'.out.step hatk.out hc47)
                  clear hc47
                  go_wp2_with fail
                  go_roundw
                  case rel => exact ⟨xs, A, c, frm, k + 1, rfl, rfl, by go_num, hrow'.out, hB'.out, by omega, .inl ⟨by rw [hlen'.out]; omega, hst.out⟩⟩
                  case measure => simp [intOf]; omega
              · have hlt' : ¬ (k : Int) < (s.size : Int) := by omega
                have hke : k = s.data.toList.length := by rw [hlen'.out]; omega
                have hke' := hid hke
                clear hke
                obtain ⟨x, hx⟩ : ∃ x, s.extract frm k = x := ⟨_, rfl⟩
                have hxd : x.data.toList = (s.data.toList.drop frm).take (k - frm) := by rw [← hx, extract_part]
                have hxs : x.size ≤ 128 := by rw [← hx, ByteArray.size_extract]; omega
                have hn := refNameMay_any x
                cases hnm : Pth.nameOk x.data.toList with
                | false =>
                  rw [hnm] at hn
                  have hn' := hid hn
                  have hpost := hid (split_bad_post (w := w) (w' := wr) (v := .tuple #[.slice none 0 0, .int .i64 1600]) (by rw [hsp.out, if_neg (fun h => hat'.out.bad (.inr hke'.out) _ hxd hnm (hd1'.out ▸ h.1))]) rfl hB'.out)
                  have hxe := hid hx
                  clear hn hnm hxd hx
                  go_wp2_with (go_at_call 18; rw [hxe.out]; refine (hn'.out _ (by unfold maxLen; omega)).mono ?_; rintro e w' ⟨rfl, rfl⟩)
                  go_ret2
                  exact hpost.out
                | true =>
                  rw [hnm] at hn
                  have hn' := hid hn
                  have hnm' := hid hnm
                  have hxd' := hid hxd
                  have hxe := hid hx
                  clear hn hnm hxd hx
                  go_wp2_with (first
                    | (go_at_call 18; rw [hxe.out]; refine (hn'.out _ (by unfold maxLen; omega)).mono ?_; rintro e w' ⟨rfl, rfl⟩)
                    | ((with_reducible refine at_slot (some 49) ?_); rw [hxe.out]; refine wpList_push rfl (.tmp 43) (.tmp 48) 22 9 rfl w.heap.size i0 (.string ByteArray.empty) 16 Try.underlying22 hi'.out hz0'.out hz1'.out hz2'.out rfl (by decide) A xs.length c (strs xs) wr.heap.size (.string x) rfl rfl rfl (by omega) (hrow'.out.alloc _) (by simp) (by have := hB'.out.size; simp; omega) ?_; intro A' c' w1 hown' hB1 hgrow; have hown2 := hid hown'; have hB12 := hid hB1; clear hown' hB1 hgrow))
                  go_roundw
                  case rel => exact ⟨xs ++ [x], A', c', k + 1, k + 1, by rw [List.length_append]; rfl, by go_num, by go_num, by rw [List.length_append, strs_append]; exact hown2.out, (hB'.out.alloc hB'.out.size _).trans hB12.out, by omega, .inr ⟨by rw [← hke'.out], rfl, hat'.out.end_ hke'.out x hxd'.out hnm'.out⟩⟩
                  case measure => simp [intOf]; omega
            · have hdone : k = s.data.toList.length + 1 ∧ frm = k ∧ Pth.pieces (s.data.toList.drop 1) = xs.map (·.data.toList) ∧ ∀ x ∈ xs, Pth.nameOk x.data.toList = true := by
                rcases hloop with h | h
                · have := h.1
                  have := hlen'.out
                  omega
                · exact h
              obtain ⟨_, _, hp, hok⟩ := hdone
              rw [hd1'.out] at hp
              have hk' : ¬ (k : Int) ≤ (s.size : Int) := by omega
              have hp' := hid hp
              have hok' := hid hok
              have hrow' := hid hrow
              have hB' := hid hB
              clear hloop hp hok hrow hB
              by_cases h8 : xs.length ≤ 8
              · have h8' : ¬ (8 : Int) < (xs.length : Int) := by omega
                have hans := hid (split_all hsp.out hp'.out hok'.out h8)
                go_wp2_with fail
                go_ret2
                exact ⟨A, xs.length, c, by rw [hans.out.2]; rfl, by rw [hans.out.1]; exact At.of_own hrow'.out, hB'.out⟩
              · have h8' : (8 : Int) < (xs.length : Int) := by omega
                have hpost := hid (split_bad_post (w := w) (w' := wr) (v := .tuple #[.slice none 0 0, .int .i64 1600]) (by rw [hsp.out, if_neg (fun h => by have := h.2; rw [hp'.out, List.length_map] at this; exact h8 this)]) rfl hB'.out)
                go_wp2_with fail
                go_ret2
                exact hpost.out
      · have e1 : ((c0.toNat : Int) != 47) = true := by
          rw [show (47 : Int) = ((47 : UInt8).toNat : Int) from rfl]
          unfold bne
          rw [byte_eq, decide_eq_false h47]
          rfl
        have hat0' := hid hat0
        have h47' := hid h47
        clear hat0 h47 h0
        go_enter Try.func14, Try.ntmps14
        go_wp2
        go_ret2
        exact split_bad_post (split_head0 hat0'.out h47'.out) rfl (Below.refl _ _)

end Go.Proofs.Ytapegklffglnoaa
