/- A text with a slash or a zero byte in it, whatever its bytes: strings.IndexRune, IndexAny, ContainsAny at these two. -/
import Derived.Test.YtapegklffglnoaaWords
import Derived.Shelf.Strings.IndexAnyAll
import Derived.Below
import Derived.RangeFuncRecord
import Derived.RangeFuncKeeps
import Derived.Deep.QuietTactic
import Derived.BigQuiet
import Derived.Shelf.RegionOpenPlain
import Derived.WalkMore
import Derived.Laws.Runes
import Derived.Shelf.Small.Utf8
namespace Go.Proofs.Ytapegklffglnoaa
open Go.Shelf Go.RowKit Go.Lib
variable {P : Program} {ρ : Ren}
/-- A byte of a text that is no ASCII byte opens one rune of 128 or more, over bytes that are none either. -/
theorem decode_high (s : ByteArray) (i : Nat) (h : i < s.size) (hb : 128 ≤ (s[i]'h).toNat) :
    ∃ r wd, Utf8.decode s i = (r, wd) ∧ 128 ≤ r ∧ r ≤ 1114111 ∧ Utf8.valid (r : Int) = true ∧ 1 ≤ wd ∧ i + wd ≤ s.size ∧ ∀ j b, i ≤ j → j < i + wd → s.data.toList[j]? = some b → 128 ≤ b.toNat := by
  have hget : ∀ k (hk : i + k < s.size), (s.get! (i + k)) = s[i + k]'hk := fun k hk => by
    simp [ByteArray.get!, getElem!_pos, hk]
    rfl
  have hl : ∀ k (hk : i + k < s.size) b, s.data.toList[i + k]? = some b → b = s.get! (i + k) := fun k hk b e => by
    rw [hget k hk]
    rw [Lib.data_getElem? s (i + k) hk] at e
    exact (Option.some.inj e).symm
  have h0 : (s.get! (i + 0)).toNat = (s[i]'h).toNat := by rw [hget 0 h]; rfl
  have hlt : ∀ k, (s.get! (i + k)).toNat < 256 := fun k => (s.get! (i + k)).toNat_lt
  have herr : ∃ r wd, (Utf8.runeError, 1) = (r, wd) ∧ 128 ≤ r ∧ r ≤ 1114111 ∧ Utf8.valid (r : Int) = true ∧ 1 ≤ wd ∧ i + wd ≤ s.size ∧ ∀ j b, i ≤ j → j < i + wd → s.data.toList[j]? = some b → 128 ≤ b.toNat :=
    ⟨_, _, rfl, by decide, by decide, by decide, by decide, by omega, fun j b h1 h2 e => by
      obtain rfl : j = i + 0 := by omega
      rw [hl 0 h b e, h0]
      exact hb⟩
  unfold Utf8.decode
  simp only [h0]
  rw [if_neg (by omega)]
  have hc : ∀ k, (decide (i + k < s.size) && (s.get! (i + k)).toNat / 64 == 2) = true → i + k < s.size ∧ 128 ≤ (s.get! (i + k)).toNat := fun k e => by
    simp at e
    exact ⟨e.1, by omega⟩
  split
  · rename_i hcond
    simp only [Bool.and_eq_true] at hcond
    obtain ⟨hs1, hb1⟩ := hc 1 (by simpa using hcond.2)
    split
    · rename_i hge
      refine ⟨_, _, rfl, hge, by have := hlt 1; omega, ?_, by decide, by omega, ?_⟩
      · unfold Utf8.valid
        have h1 := hcond.1
        simp at h1
        simp
        omega
      · intro j b h1 h2 e
        obtain ⟨k, rfl⟩ : ∃ k, j = i + k := ⟨j - i, by omega⟩
        have : k = 0 ∨ k = 1 := by omega
        rcases this with rfl | rfl
        · rw [hl 0 h b e, h0]; exact hb
        · rw [hl 1 hs1 b e]; exact hb1
    · exact herr
  · split
    · rename_i hcond
      simp only [Bool.and_eq_true] at hcond
      obtain ⟨hs1, hb1⟩ := hc 1 (by simpa using hcond.1.2)
      obtain ⟨hs2, hb2⟩ := hc 2 (by simpa using hcond.2)
      split
      · rename_i hge
        simp only [Bool.and_eq_true, decide_eq_true_eq] at hge
        refine ⟨_, _, rfl, by omega, by have := hlt 1; have := hlt 2; omega, ?_, by decide, by omega, ?_⟩
        · exact hge.2
        · intro j b h1 h2 e
          obtain ⟨k, rfl⟩ : ∃ k, j = i + k := ⟨j - i, by omega⟩
          have : k = 0 ∨ k = 1 ∨ k = 2 := by omega
          rcases this with rfl | rfl | rfl
          · rw [hl 0 h b e, h0]; exact hb
          · rw [hl 1 hs1 b e]; exact hb1
          · rw [hl 2 hs2 b e]; exact hb2
      · exact herr
    · split
      · rename_i hcond
        simp only [Bool.and_eq_true] at hcond
        obtain ⟨hs1, hb1⟩ := hc 1 (by simpa using hcond.1.1.2)
        obtain ⟨hs2, hb2⟩ := hc 2 (by simpa using hcond.1.2)
        obtain ⟨hs3, hb3⟩ := hc 3 (by simpa using hcond.2)
        split
        · rename_i hge
          simp only [Bool.and_eq_true, decide_eq_true_eq] at hge
          have hv := hge.2
          unfold Utf8.valid at hv
          simp at hv
          refine ⟨_, _, rfl, by omega, by omega, hge.2, by decide, by omega, ?_⟩
          intro j b h1 h2 e
          obtain ⟨k, rfl⟩ : ∃ k, j = i + k := ⟨j - i, by omega⟩
          have : k = 0 ∨ k = 1 ∨ k = 2 ∨ k = 3 := by omega
          rcases this with rfl | rfl | rfl | rfl
          · rw [hl 0 h b e, h0]; exact hb
          · rw [hl 1 hs1 b e]; exact hb1
          · rw [hl 2 hs2 b e]; exact hb2
          · rw [hl 3 hs3 b e]; exact hb3
        · exact herr
      · exact herr
/-- Its rune's bytes: two or more, the last one of them no ASCII byte. -/
theorem encode_high (r : Nat) (h : 128 ≤ r) (hv : Utf8.valid (r : Int) = true) :
    ∃ n : Nat, (Utf8.encode (r : Int)).size = n + 2 ∧ ∃ h, 128 ≤ ((Utf8.encode (r : Int))[n + 1]'h).toNat := by
  have hr : r ≤ 1114111 := by
    unfold Utf8.valid at hv
    simp at hv
    omega
  have e : ∃ E, Utf8.encode (r : Int) = E := ⟨_, rfl⟩
  obtain ⟨E, hE⟩ := e
  rw [hE]
  unfold Utf8.encode at hE
  simp only [hv, if_true, Int.toNat_natCast] at hE
  rw [if_neg (by omega)] at hE
  have hm : 128 ≤ (UInt8.ofNat (0x80 + r % 64)).toNat := by
    rw [UInt8.toNat_ofNat']
    omega
  split at hE
  · subst hE
    exact ⟨0, rfl, by show 1 < 2; decide, hm⟩
  · split at hE
    · subst hE
      exact ⟨1, rfl, by show 2 < 3; decide, hm⟩
    · subst hE
      exact ⟨2, rfl, by show 3 < 4; decide, hm⟩
theorem run_next_any (w : World) (s : ByteArray) (pos : Nat) (ty : TypeId) (h : pos < s.size) (r wd : Nat) (hd : Utf8.decode s pos = (r, wd)) :
    (Instr.next (.pointer (some ⟨w.heap.size, 0, none⟩)) true ty).run P (w.iter s pos) =
      .ok (.tuple #[.bool true, .int .i64 pos, .int .i32 r]) (w.iter s (pos + wd)) := by
  simp only [Instr.next, getObj, setObj, Sem.run_bind, Sem.run, World.iter_heap, Result.andThen, h, if_true, hd, World.iter_set]
  simp [goInt]

/-- The slash and the zero byte. -/
def sepB : ByteArray := ⟨#[47, 0]⟩
theorem sepB_size : sepB.size = 2 := rfl
theorem iter_below (w : World) (s : ByteArray) (pos : Nat) : Below w.heap.size w (w.iter s pos) := (Below.refl _ _).alloc (Nat.le_refl _) _

set_option maxHeartbeats 2000000 in
set_option maxRecDepth 1000000 in
theorem Any.IndexRune_error (L : Lays.n152 P ρ) (w : World) :
    Calls P (ρ.f 152) #[.string sepB, .int .i32 65533] w fun e w' => e = .returned (.int .i64 (-1)) ∧ Below w.heap.size w w' := by
  have h0 := fun ty => run_next_ascii (P := P) w sepB 0 ty (by decide) (by decide)
  have h1 := fun ty => run_next_ascii (P := P) w sepB 1 ty (by decide) (by decide)
  have h2 := fun ty => run_next_end (P := P) w sepB 2 ty (by decide)
  have e0 : ((sepB[0]'(by decide)).toNat : Int) = 47 := rfl
  have e1 : ((sepB[1]'(by decide)).toNat : Int) = 0 := rfl
  simp only [e0] at h0
  simp only [e1] at h1
  have t3 := L.t3; have a3 := L.a3; have z3 := L.z3; have v3 := L.v3
  have t4 := L.t4; have a4 := L.a4; have z4 := L.z4; have v4 := L.v4
  have t5 := L.t5; have a5 := L.a5; have z5 := L.z5; have v5 := L.v5
  have t9 := L.t9; have a9 := L.a9; have z9 := L.z9; have v9 := L.v9
  have t21 := L.t21; have a21 := L.a21; have z21 := L.z21; have v21 := L.v21
  have t0 := L.t0; have a0 := L.a0; have z0 := L.z0; have v0 := L.v0
  go_enter L.f152, Body.n152_ntmps ρ
  go_wp2_with fail
  refine wp_loop_rounds 3 ?_
  rw [rounds_succ]
  go_wp2_with fail
  rw [rounds_succ]
  go_wp2_with fail
  rw [rounds_succ]
  go_wp2_with fail
  go_ret
  exact ⟨rfl, iter_below _ _ _⟩

set_option maxHeartbeats 2000000 in
set_option maxRecDepth 1000000 in
theorem Any.IndexRune_high (L : Lays.n152 P ρ) (r : Nat) (w : World) (h : 128 ≤ r) (hne : r ≠ 65533) (hv : Utf8.valid (r : Int) = true) :
    Calls P (ρ.f 152) #[.string sepB, .int .i32 r] w fun e w' => e = .returned (.int .i64 (-1)) ∧ Below w.heap.size w w' := by
  obtain ⟨n, hn, hlt, hb⟩ := encode_high r h hv
  have h4 := (encode_facts r hv (by omega)).2.1
  obtain ⟨E, hE⟩ : ∃ E, Utf8.encode (r : Int) = E := ⟨_, rfl⟩
  have hv' : (r : Int) < 55296 ∨ (57344 ≤ (r : Int) ∧ (r : Int) ≤ 1114111) := by
    unfold Utf8.valid at hv
    simp at hv
    omega
  have hne' : ((r : Int) == 65533) = false := by simp; omega
  have hr : ¬ (r : Int) < 128 := by omega
  have hr0 : (0 : Int) ≤ r := by omega
  have t3 := L.t3; have a3 := L.a3; have z3 := L.z3; have v3 := L.v3
  have t4 := L.t4; have a4 := L.a4; have z4 := L.z4; have v4 := L.v4
  have t5 := L.t5; have a5 := L.a5; have z5 := L.z5; have v5 := L.v5
  have t9 := L.t9; have a9 := L.a9; have z9 := L.z9; have v9 := L.v9
  have t21 := L.t21; have a21 := L.a21; have z21 := L.z21; have v21 := L.v21
  have t0 := L.t0; have a0 := L.a0; have z0 := L.z0; have v0 := L.v0
  have e119 : ∀ args w, (callFunc (ρ.f 119) args).run P w = .ok (.enter (ρ.f 119) args) w := enters_of L.f119 (by kernel_rfl) rfl
  go_enter L.f152, Body.n152_ntmps ρ
  go_wp2_with fail
  refine (Any.utf8_ValidRune { L with } _ _).mono ?_
  rintro e w' ⟨rfl, rfl⟩
  have hvr : Lib.validRune (r : Int) = true := by
    unfold Lib.validRune
    simp
    omega
  rw [hvr]
  clear hv hv' hvr
  have hconv : ∀ w, (convert (ρ.t 21) (ρ.t 9) (.int .i32 r)).run P w = .ok (.string E) w := fun w => by
    rw [run_convert_int_string w (ρ.t 21) (ρ.t 9) .i32 r (by rw [L.t21]; rfl) L.t9, hE]
  rw [hE] at hn h4
  have hb' : ∀ h : n + 1 < E.size, 128 ≤ (E[n + 1]'h).toNat := by subst hE; exact fun _ => hb
  clear hb hlt hE
  have mixed := L.mixed
  have hsp : (sepB.size : Int) = 2 := rfl
  have hsp' : sepB.size = 2 := rfl
  cases n with
  | zero =>
    have hn' : E.size = 2 := hn
    have hn2 : (E.size : Int) = 2 := by omega
    have hw : wrap64 (2 - 1) = 1 := by simp [wrap64]
    have hlt1 : 1 < E.size := by rw [hn']; decide
    obtain ⟨c, hc0⟩ : ∃ c, E[1] = c := ⟨_, rfl⟩
    have hc : 128 ≤ c.toNat := by rw [← hc0]; exact hb' (by omega)
    have hs1 : sepB[1]'(by decide) = 0 := rfl
    clear hn hb'
    go_wp2_with fail
    go_step3
    go_wp2_with fail
    refine wp_loop_rounds 1 ?_
    rw [rounds_succ]
    go_wp2_with fail
    go_step3
    go_wp2_with fail
    have hneq : ((0 : Int) != (c.toNat : Int)) = true := by simp; omega
    go_quiet_o (fail)
    have hb1 : Below w'.heap.size w' (w'.drewN nq) := ⟨rfl, rfl, rfl, Nat.le_refl _, fun _ _ => rfl⟩
    generalize w'.drewN nq = W at hb1 ⊢
    have hbb := hid hb1
    clear hb1
    have hw2 : IntKind.i64.wrap 2 = 2 := by simp [IntKind.wrap, IntKind.bits, IntKind.signed]
    have hib : Lib.indexByte [] c = -1 := rfl
    go_wp2_with fail
    have e137 : ∀ args w, (callFunc (ρ.f 137) args).run P w = .ok (.enter (ρ.f 137) args) w := enters_of L.f137 (by kernel_rfl) rfl
    go_quiet_o ((go_at_fn (ρ.f 137); exact Calls.quiet_of_same (Any.strings_IndexByte { L with } _ _ _)))
    go_wp2_with fail
    rw [Exit.noGoto_ret]
    simp only [Exit.inBlock, Exit.then]
    rw [Exit.noGoto_ret]
    go_ret
    exact ⟨rfl, hbb.out.trans ⟨rfl, rfl, rfl, Nat.le_refl _, fun _ _ => rfl⟩⟩
  | succ n =>
    have hz : (2 : Int) ≤ (E.size : Int) - 1 := by omega
    have hz2 : (E.size : Int) ≤ 4 := by omega
    have hlt : decide ((E.size : Int) - 1 < 2) = false := by simp; omega
    clear hn
    go_wp2_with fail
    go_step3
    go_wp2_with fail
    refine wp_loop_rounds 1 ?_
    rw [rounds_succ]
    go_wp2_with fail
    rw [Exit.noGoto_ret]
    go_ret
    exact ⟨rfl, Below.refl _ _⟩
theorem below_putObj {B : Nat} {w W : World} (h : Below B w W) (l : Nat) (o : Obj) (hl : B ≤ l) : Below B w (W.putObj l o) :=
  ⟨h.os, h.tape, h.output, by rw [World.putObj_size]; exact h.size, fun k hk => (World.putObj_heap_other (by omega)).trans (h.block k hk)⟩
theorem run_next_at (w : World) (k : Nat) (s : ByteArray) (pos : Nat) (ty : TypeId) (hk : w.heap[k]? = some (.stringIter s pos)) (h : pos < s.size) (r wd : Nat) (hd : Utf8.decode s pos = (r, wd)) :
    (Instr.next (.pointer (some ⟨k, 0, none⟩)) true ty).run P w = .ok (.tuple #[.bool true, .int .i64 pos, .int .i32 r]) (w.putObj k (.stringIter s (pos + wd))) := by
  simp [Instr.next, getObj, setObj, Sem.run, hk, Result.andThen, h, hd, goInt, World.putObj]
theorem run_next_stop (w : World) (k : Nat) (s : ByteArray) (pos : Nat) (ty : TypeId) (hk : w.heap[k]? = some (.stringIter s pos)) (h : ¬ pos < s.size) :
    (Instr.next (.pointer (some ⟨k, 0, none⟩)) true ty).run P w = .ok (.tuple #[.bool false]) w := by
  simp [Instr.next, getObj, Sem.run, hk, h]

/-- No rune that is no ASCII rune is a slash or a zero. -/
theorem Any.IndexRune_sep (L : Lays.n152 P ρ) (r : Nat) (w : World) (h : 128 ≤ r) (hv : Utf8.valid (r : Int) = true) :
    Calls P (ρ.f 152) #[.string sepB, .int .i32 r] w fun e w' => e = .returned (.int .i64 (-1)) ∧ Below w.heap.size w w' := by
  by_cases e : r = 65533
  · subst e
    exact Any.IndexRune_error L w
  · exact Any.IndexRune_high L r w h e hv

theorem NoAny_skip {s chars : List UInt8} {i k : Nat} (h : Lib.NoAny s chars i) (hk : ∀ j b, i ≤ j → j < i + k → s[j]? = some b → chars.contains b = false) : Lib.NoAny s chars (i + k) := fun j b hj hb => by
  by_cases e : j < i
  · exact h j b e hb
  · exact hk j b (by omega) hj hb

theorem sep_high {b : UInt8} (h : 128 ≤ b.toNat) : sepB.data.toList.contains b = false := by
  have h1 : b ≠ 47 := fun e => by subst e; simp at h
  have h2 : b ≠ 0 := fun e => by subst e; simp at h
  show [47, 0].contains b = false
  simp [h1, h2]

set_option maxHeartbeats 8000000 in
set_option maxRecDepth 1000000 in
/-- s of at most 8 bytes, whatever they are; a slash or a zero byte is looked for. -/
theorem Any.IndexAny_sep_short (L : Lays.n153 P ρ) (s : ByteArray) (w : World) (h8 : s.size ≤ 8) :
    Calls P (ρ.f 153) #[.string s, .string sepB] w fun e w' => e = .returned (.int .i64 (Lib.indexAny s.data.toList sepB.data.toList)) ∧ Below w.heap.size w w' := by
  have hemp : sepB.toList.isEmpty = false := by rw [Lib.toList_data]; rfl
  have hn1 : ((sepB.size : Int) == 1) = false := rfl
  have h8z : decide ((8 : Int) < (s.size : Int)) = false := decide_eq_false (by omega)
  have t3 := L.t3; have a3 := L.a3; have z3 := L.z3; have v3 := L.v3
  have t4 := L.t4; have a4 := L.a4; have z4 := L.z4; have v4 := L.v4
  have t5 := L.t5; have a5 := L.a5; have z5 := L.z5; have v5 := L.v5
  have t9 := L.t9; have a9 := L.a9; have z9 := L.z9; have v9 := L.v9
  have t21 := L.t21; have a21 := L.a21; have z21 := L.z21; have v21 := L.v21
  have e152 : ∀ args w, (callFunc (ρ.f 152) args).run P w = .ok (.enter (ρ.f 152) args) w := enters_of L.f152 (by kernel_rfl) rfl
  have e226 : ∀ args w, (callFunc (ρ.f 226) args).run P w = .ok (.enter (ρ.f 226) args) w := enters_of L.f226 (by kernel_rfl) rfl
  go_enter L.f153, Body.n153_ntmps ρ
  go_wp2_with (go_at_fn (ρ.f 226); refine (Any.strings_shouldUseASCIISet { L with } _ _).mono ?_; rintro e w' ⟨rfl, hw⟩; rw [hw, h8z])
  go_loopg [9, 10] s.size (fun g _ _ wx => ∃ i : Nat, i + g = s.size ∧ wx.heap[w.heap.size]? = some (.stringIter s i) ∧ Below w.heap.size w wx ∧ Lib.NoAny s.data.toList sepB.data.toList i)
  case atStart => exact ⟨0, by omega, World.iter_heap _ _ _, iter_below _ _ _, Lib.NoAny.zero _ _⟩
  case round =>
    obtain ⟨i, hig, hk, hB, hno⟩ := hrel
    have HN := hid hno
    have HB := hid hB
    clear hno hB
    cases gk with
    | zero =>
      obtain rfl : i = s.size := by omega
      have hnx := fun ty => run_next_stop (P := P) _ _ s s.size ty hk (by omega)
      go_wp2
      go_ret
      exact ⟨by rw [Lib.indexAny_none (by rw [← Lib.size_eq]; exact HN.out)]; rfl, HB.out⟩
    | succ g =>
      have hi : i < s.size := by omega
      obtain ⟨x, hx⟩ : ∃ x : UInt8, s[i]'hi = x := ⟨_, rfl⟩
      have hxl : s.data.toList[i]? = some x := by rw [← hx]; exact Lib.data_getElem? s i hi
      have hwl := (Array.getElem?_eq_some_iff.1 hk).1
      by_cases hx128 : x.toNat < 128
      · have hd := decode_ascii s i hi (by rw [hx]; exact hx128)
        rw [hx] at hd
        have hnx := fun ty => run_next_at (P := P) _ _ s i ty hk hi _ _ hd
        have hk1 := World.putObj_heap_same (o := .stringIter s (i + 1)) hwl
        have hB1 : Below w.heap.size w (wr.putObj w.heap.size (.stringIter s (i + 1))) := below_putObj HB.out _ _ (Nat.le_refl _)
        have Hx := hid hxl
        have HB1 := hid hB1
        have HK1 := hid hk1
        clear hxl hx hd hk1 hB1 hk
        have hcon := Lib.contains_iff_indexByte sepB.data.toList x
        have hback : ((x.toNat : Int)).toNat.toUInt8 = x := by simp
        cases hin : sepB.data.toList.contains x
        · rw [hin] at hcon
          have hlt : ¬ ((0 : Int) ≤ Lib.indexByte sepB.data.toList x) := of_decide_eq_false hcon.symm
          clear hcon
          go_wp2_with (go_at_fn (ρ.f 152); refine (Any.strings_IndexRune_ascii { L with } _ _ _ (by omega) (by omega)).mono ?_; rintro e w' ⟨rfl, hw⟩; rw [hw, hback])
          go_roundg g
          case measure => omega
          case rel => exact ⟨i + 1, by omega, HK1.out, HB1.out, HN.out.succ Hx.out hin⟩
        · rw [hin] at hcon
          have hge : (0 : Int) ≤ Lib.indexByte sepB.data.toList x := of_decide_eq_true hcon.symm
          clear hcon
          go_wp2_with (go_at_fn (ρ.f 152); refine (Any.strings_IndexRune_ascii { L with } _ _ _ (by omega) (by omega)).mono ?_; rintro e w' ⟨rfl, hw⟩; rw [hw, hback])
          go_ret
          exact ⟨by rw [Lib.indexAny_hit HN.out Hx.out hin]; rfl, HB1.out⟩
      · have hx7 : 128 ≤ x.toNat := by omega
        obtain ⟨r, wd, hd, hr, _, hv, hwd, hend, hbs⟩ := decode_high s i hi (by rw [hx]; exact hx7)
        have hnx := fun ty => run_next_at (P := P) _ _ s i ty hk hi _ _ hd
        have hk1 := World.putObj_heap_same (o := .stringIter s (i + wd)) hwl
        have hB1 : Below w.heap.size w (wr.putObj w.heap.size (.stringIter s (i + wd))) := below_putObj HB.out _ _ (Nat.le_refl _)
        have HN2 := hid (NoAny_skip HN.out (k := wd) fun j b h1 h2 h3 => sep_high (hbs j b h1 h2 h3))
        have HR := hid (fun w => Any.IndexRune_sep { L with } r w hr hv)
        have HB1 := hid hB1
        have HK1 := hid hk1
        clear hxl hx hd hk1 hB1 hk hbs hx128 hv
        go_wp2_with (go_at_fn (ρ.f 152); refine (HR.out _).mono ?_; rintro e w2 ⟨rfl, hw⟩; have hw2 := hid hw; clear hw)
        have hwl1 : w.heap.size < (wr.putObj w.heap.size (.stringIter s (i + wd))).heap.size := by rw [World.putObj_size]; exact hwl
        go_roundg (s.size - (i + wd))
        case measure => omega
        case rel => exact ⟨i + wd, by omega, (hw2.out.block _ hwl1).trans HK1.out, HB1.out.trans (hw2.out.mono (by omega)), HN2.out⟩
/-- Does a text hold a slash or a zero byte? Whatever the text. -/
theorem Any.IndexAny_sep (L : Lays.n153 P ρ) (h116 : (P.info? (ρ.t 116)).map (fun i => (i.zero, i.size)) = some (some (.agg (Array.replicate 256 (.bool false))), 256)) (s : ByteArray) (w : World) (hs : s.size < 4294967281) :
    Calls P (ρ.f 153) #[.string s, .string sepB] w fun e w' => e = .returned (.int .i64 (Lib.indexAny s.data.toList sepB.data.toList)) ∧ Below w.heap.size w w' := by
  by_cases h8 : s.size ≤ 8
  · exact Any.IndexAny_sep_short L s w h8
  · refine (Any.strings_IndexAny_long L (zero_of_info h116).1 (zero_of_info h116).2 s sepB w (by decide) (by omega) hs (by decide) ?_).mono fun e w' ⟨h1, h2⟩ => ⟨h1, ?_⟩
    · intro j b hb
      have h : sepB.data.toList = [47, 0] := rfl
      rw [h] at hb
      match j, hb with
      | 0, hb => cases hb; decide
      | 1, hb => cases hb; decide
    · rw [h2]
      exact ((Below.refl _ _).alloc (Nat.le_refl _) _).alloc (by simp) _

set_option maxHeartbeats 1000000 in
theorem Any.ContainsAny_sep (L : Lays.n150 P ρ) (h116 : (P.info? (ρ.t 116)).map (fun i => (i.zero, i.size)) = some (some (.agg (Array.replicate 256 (.bool false))), 256)) (s : ByteArray) (w : World) (hs : s.size < 4294967281) :
    Calls P (ρ.f 150) #[.string s, .string sepB] w fun e w' => e = .returned (.bool (Lib.containsAny s.data.toList sepB.data.toList)) ∧ Below w.heap.size w w' := by
  have c := Any.IndexAny_sep { L with } h116 s w hs
  have t3 := L.t3; have a3 := L.a3; have z3 := L.z3; have v3 := L.v3
  have t4 := L.t4; have a4 := L.a4; have z4 := L.z4; have v4 := L.v4
  have t9 := L.t9; have a9 := L.a9; have z9 := L.z9; have v9 := L.v9
  have e153 : ∀ args w, (callFunc (ρ.f 153) args).run P w = .ok (.enter (ρ.f 153) args) w := enters_of L.f153 (by kernel_rfl) rfl
  go_enter L.f150, Body.n150_ntmps ρ
  go_wp2_with (go_at_fn (ρ.f 153); refine c.mono ?_; rintro e w' ⟨rfl, hw⟩)
  go_ret
  exact ⟨rfl, hw⟩

theorem containsAny_sep (l : List UInt8) : Lib.containsAny l sepB.data.toList = decide (∃ c ∈ l, c = 47 ∨ c = 0) := by
  have hc : ∀ c, sepB.data.toList.contains c = decide (c = 47 ∨ c = 0) := fun c => by
    show [47, 0].contains c = _
    by_cases h1 : c = 47 <;> by_cases h2 : c = 0 <;> simp [h1, h2]
  unfold Lib.containsAny
  apply decide_eq_decide.2
  constructor
  · intro h
    refine Classical.byContradiction fun hne => ?_
    have hno : Lib.NoAny l sepB.data.toList l.length := fun j b _ hb => by
      rw [hc b]
      exact decide_eq_false fun e => hne ⟨b, List.mem_of_getElem? hb, e⟩
    rw [Lib.indexAny_none hno] at h
    omega
  · rintro ⟨c, hm, hcc⟩
    obtain ⟨j, hj⟩ := List.getElem?_of_mem hm
    refine Classical.byContradiction fun hn => ?_
    have hall : ∀ (l : List UInt8) (j : Nat), l[j]? = some c → 0 ≤ Lib.indexAny l sepB.data.toList := by
      intro l
      induction l with
      | nil => intro j h; simp at h
      | cons b l ih =>
        intro j h
        unfold Lib.indexAny
        split
        · omega
        · rename_i hb
          have hb' : b ≠ c := by
            rintro rfl
            rw [hc b] at hb
            simp [hcc] at hb
          cases j with
          | zero => simp at h; exact absurd h hb'
          | succ j =>
            have := ih j (by simpa using h)
            split
            · rename_i he; have := beq_iff_eq.1 he; omega
            · omega
    exact hn (hall l j hj)
end Go.Proofs.Ytapegklffglnoaa
