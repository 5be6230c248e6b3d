/- Layer 11: ObjectRoom: as many unlike objects as may be are held. -/
import Derived.Test.YtpjfhbmegabafaaObL
import Derived.Test.YtpjfhbmegabafaaObK
import Derived.Test.YtpjfhbmegabafaaObW
import Derived.Test.YtpjfhbmegabafaaArith
namespace Go.Proofs.Ytpjfhbmegabafaa
open Go.RowKit
open Go.Lib (strCells strCells_length strCells_oneCell)
attribute [local irreducible] Sha.compress Sha.blocks Sha.sha Sha.pad

theorem Try.infoText : (Try.prog.info? 9).map (fun i => (i.zero, i.size, i.bytes)) = some (some (.string ⟨#[]⟩), 1, 16) := by kernel_rfl
section
variable {ops : Array Oper} {rest : List Oper} {a : Act} {w : World} {Q : Exit → Act → World → Prop}
/-- One text put behind a row of texts. -/
theorem wpList_pushText {o1 o2 : Oper} (hg1 : o1.guard = none) (hg2 : o2.guard = none) (x s y : Operand) (ho1 : o1.op = .buildSlice 50 1 #[(0, x)]) (ho2 : o2.op = .call { callee := .builtin .append, args := #[s, y], argTypes := #[50, 50] })
    (B : Nat) (A : Option Addr) (n' c : Nat) (xs : List ByteArray) (t : ByteArray) (hx : a.eval x = .string t) (hs : (a.put o1.dst (.slice (some ⟨w.heap.size, 0, none⟩) 1 1)).eval s = .slice A n' c) (hy : (a.put o1.dst (.slice (some ⟨w.heap.size, 0, none⟩) 1 1)).eval y = .slice (some ⟨w.heap.size, 0, none⟩) 1 1)
    (h63 : n' ≤ 1000000) (hown : w.ownsRow B 9 1 (.slice A n' c) n' (strs xs)) (hB : B ≤ w.heap.size)
    (m : Nat) (hm : n' + 1 = m) (h : ∀ A2 c2 w', w'.ownsRow B 9 1 (.slice A2 m c2) m (strs (xs ++ [t])) → Below B w w' → w.grownBy w' (Value.slice A n' c).ownBlock → wpList Try.prog ops Q rest ((a.put o1.dst (.slice (some ⟨w.heap.size, 0, none⟩) 1 1)).put o2.dst (.slice A2 m c2)) w') :
    wpList Try.prog ops Q (o1 :: o2 :: rest) a w := by
  subst hm
  obtain ⟨i0, hi0, hz0, hz1, hz2⟩ := info_parts Try.infoText
  have hb1 : Below w.heap.size w (w.alloc (.cells #[.string t] 9)) := (Below.refl _ _).alloc (Nat.le_refl _) _
  refine wpList_run (o := o1) hg1 (.slice (some ⟨w.heap.size, 0, none⟩) 1 1) (w.alloc (.cells #[.string t] 9)) ?_ ?_
  · have hr : (Instr.buildSlice 50 1 #[(0, .string t)]).run Try.prog w = .ok (.slice (some ⟨w.heap.size, 0, none⟩) 1 1) (w.alloc (.cells #[.string t] 9)) := by kernel_rfl
    unfold execOp
    simp only [ho1, List.map_toArray, List.map_cons, List.map_nil, hx, Sem.run_bind, hr, Result.andThen_ok, Sem.run_pure]
  · refine wpList_appends (o := o2) hg2 s y 50 9 ho2 B i0 (.string ⟨#[]⟩) 1 16 Try.underlying50 hi0 hz0 hz1 hz2 rfl (by decide) A n' c (strs xs) _ (some ⟨w.heap.size, 0, none⟩) 1 1 (strs [t]) hs hy (fun e => by cases e) (strs_one _) (by omega) (by omega) (rown_on hown hb1) (Texts.new w [t] #[.string t] rfl 1 rfl 9) (Nat.le_trans hB hb1.size) ?_
    intro A2 c2 w' h1 h2 h3
    refine h A2 c2 w' ?_ ((hb1.mono hB).trans h2) ⟨h3.os.trans hb1.os, h3.tape.trans hb1.tape, h3.output.trans hb1.output, Nat.le_trans hb1.size h3.size, fun k hk hne => (h3.block k (Nat.lt_of_lt_of_le hk hb1.size) hne).trans (hb1.block k hk)⟩
    rw [strs_append]
    exact h1
end
/-- A row lies in no block of another type. -/
theorem own_ne {w : World} {B n k g sz : Nat} {e t : TypeId} {v : Value} {xs cs : List Value} (h : w.ownsRow B e sz v n xs) (hk : v.ownBlock = some k) (hg : Holds w g t cs) (ht : t ≠ e) : k ≠ g := by
  intro e1
  subst e1
  rcases h.2 with ⟨hn, _⟩ | ⟨q, cap, cur, hv, hb, hq, rest⟩
  · rw [hn] at hk; cases hk
  · rw [hv] at hk
    have e2 : q = k := Option.some.inj hk
    subst e2
    unfold Holds at hg
    rw [hq] at hg
    injection hg with h1
    injection h1 with _ h2
    exact ht h2.symm
/-- A row behind a call that grew another block, below it. -/
theorem row_past {w w' : World} {n0 c k sz b : Nat} {A : Option Addr} {t : TypeId} {cs : List Value} (h : w.ownsRow n0 t sz (.slice A k c) k cs) (hg : w.grownBy w' (some b)) (hb : b < n0) : w'.ownsRow n0 t sz (.slice A k c) k cs := by
  have hlt := h.lt
  obtain ⟨h1, h2 | ⟨g, cap, cur, hv, hB, hh, rest⟩⟩ := h
  · exact ⟨h1, .inl h2⟩
  · refine ⟨h1, .inr ⟨g, cap, cur, hv, hB, ?_, rest⟩⟩
    rw [hg.block g (hlt g (by rw [hv]; rfl)).2 (fun e => by have := Option.some.inj e; omega)]
    exact hh
theorem Texts.of_row {w : World} {B n c : Nat} {A : Option Addr} {xs : List ByteArray} (h : w.ownsRow B 9 1 (.slice A n c) n (strs xs)) : Texts w w.heap.size A n xs := At.of_own h

/-- The first so many of the sixteen texts. -/
def rooms (n : Nat) : List ByteArray := (List.range n).map roomT
theorem rooms_succ (n : Nat) : rooms n ++ [roomT n] = rooms (n + 1) := by unfold rooms; rw [List.range_succ, List.map_append]; rfl
theorem rooms_len (n : Nat) : (rooms n).length = n := by unfold rooms; rw [List.length_map, List.length_range]
theorem rooms_at {n q : Nat} (h : q < n) : (rooms n)[q]? = some (roomT q) := by unfold rooms; rw [List.getElem?_map, List.getElem?_range h]; rfl
theorem rooms_small {n : Nat} : ∀ x ∈ rooms n, x.size ≤ 65536 := fun x hx => by
  obtain ⟨q, -, rfl⟩ := List.mem_map.1 hx
  rw [roomT_size]
  decide
/-- No two of the sixteen have one hash. -/
def Unlike16 : Prop := ∀ p q, p < 16 → q < 16 → obHash (roomT p) = obHash (roomT q) → roomT p = roomT q
theorem unlike16 (h : ∀ (i j : Nat) x y, (rooms 16)[i]? = some x → (rooms 16)[j]? = some y → obHash x = obHash y → x = y) : Unlike16 := fun p q hp hq e => h p q _ _ (rooms_at hp) (rooms_at hq) e
/-- Held are some of the sixteen. -/
def Some16 (held : List ByteArray) : Prop := ∀ y ∈ held, ∃ q, q < 16 ∧ y = roomT q
theorem Some16.inj {held : List ByteArray} (h : Some16 held) (hu : Unlike16) {q : Nat} (hq : q < 16) : ∀ y ∈ held, obHash y = obHash (roomT q) → y = roomT q := fun y hy e => by
  obtain ⟨p, hp, rfl⟩ := h y hy
  exact hu p q hp hq e
theorem Some16.snoc {held : List ByteArray} (h : Some16 held) {q : Nat} (hq : q < 16) : Some16 (held ++ [roomT q]) := fun y hy => by
  rcases List.mem_append.1 hy with hy | hy
  · exact h y hy
  · rw [List.mem_singleton.1 hy]
    exact ⟨q, hq, rfl⟩
theorem room_byte (k : Nat) (hk : k < 16) : strCells ⟨#[UInt8.ofNat k]⟩ = [.int .u8 (k : Int)] := by
  unfold strCells
  show [Value.int .u8 ((UInt8.ofNat k).toNat : Int)] = _
  rw [show (UInt8.ofNat k).toNat = k from by simp; omega]
/-- Is a text among these? -/
def hasT (l : List ByteArray) (x : ByteArray) : Bool := l.any fun y => y.data.toList == x.data.toList
theorem hasT_yes {l : List ByteArray} {x : ByteArray} (h : x ∈ l) : hasT l x = true := List.any_eq_true.2 ⟨x, h, beq_self_eq_true _⟩
theorem hasT_no {l : List ByteArray} {x : ByteArray} (h : x ∉ l) : hasT l x = false := by
  cases e : hasT l x with
  | false => rfl
  | true =>
    obtain ⟨y, hy, hq⟩ := List.any_eq_true.1 e
    have : y = x := ByteArray.ext (Array.toList_inj.1 (eq_of_beq hq))
    exact absurd (this ▸ hy) h
theorem hasT_step {held : List ByteArray} {x y : ByteArray} {j : Nat} (h : held[j]? = some y) : hasT (held.take (j + 1)) x = (hasT (held.take j) x || y.data.toList == x.data.toList) := by
  unfold hasT
  rw [List.take_add_one, h]
  simp
theorem rPutE {s b most : Nat} {m pm : Obs} {d : ByteArray} {pa : List UInt8} {pc : Int} {w : World} (e : putAns most m d = (pa, pc, pm)) (h : StoreAt w s b most m) :
    Calls Try.prog 15 #[.pointer (some ⟨s, 0, none⟩), .string d] w fun e w' => e = .returned (.tuple #[.agg (byteCells pa).toArray, .int .i64 pc]) ∧ StoreAt w' s b most pm ∧ w.grownBy w' (some b) := by
  have := obPut_any s b most m d w h
  rw [e] at this
  exact this
theorem rGetE {s b most : Nat} {m : Obs} {k : List UInt8} (hk : k.length = 32) {x : ByteArray} {w : World} (e : obGet m k = some x) (h : StoreAt w s b most m) :
    Calls Try.prog 20 #[.pointer (some ⟨s, 0, none⟩), .agg (byteCells k).toArray] w fun e w' => e = .returned (.tuple #[.string x, .int .i64 0]) ∧ Below w.heap.size w w' := by
  have := obGet_any s b most m k hk w h
  rw [e] at this
  exact this
theorem rLenE {s b most n : Nat} {held : List ByteArray} {w : World} (e : held.length = n) (h : StoreAt w s b most (obOf held)) :
    Calls Try.prog 22 #[.pointer (some ⟨s, 0, none⟩)] w fun e w' => e = .returned (.int .i64 (n : Int)) ∧ w' = w := by
  have := obLen_any s b most (obOf held) w h
  rw [obOf_len, e] at this
  exact this

set_option maxRecDepth 100000 in
set_option maxHeartbeats 2000000 in
theorem ObjectRoom_law {w : World} (most : Int) (A0 : Option Addr) (n0 c0 : Nat) (zs : List Int) (hz : IntsIn w A0 n0 c0 zs) :
    Calls Try.prog 4 #[.int .i64 most, .slice A0 n0 c0] w fun e w' => e = .returned (.bool true) ∧ Below w.heap.size w w' := by
  obtain ⟨hI0, -, -, -, -⟩ := hz
  have hI := hid hI0
  obtain ⟨m7, hm7, hand7, -⟩ := and_mask most 3 (by decide) 7 rfl
  have hm8 : m7 < 8 := hm7
  obtain ⟨k, hk⟩ : ∃ k, 1 + m7 = k := ⟨_, rfl⟩
  have hk' : 1 + (m7 : Int) = (k : Int) := by omega
  have hk1 : 1 ≤ k := by omega
  have hk8 : k ≤ 8 := by omega
  have hkw := IntWalk.i64_in (k : Int) (by omega)
  have hAw := hid (awake11_any w)
  have hN := hid (fun V => obNew_yes k (by omega) (by omega) V)
  have hkk := hid hk8
  clear hI0 hm7 hk hm8 hk1 hk8
  go_enter Try.func4, Try.ntmps4
  go_wp2_with fail
  refine hAw.out.mono ?_
  rintro e W1 ⟨rfl, hb⟩
  have hB1 := hid hb
  clear hb hAw
  try (rename_i hKK; refine hKK _ _ ?_; clear hKK)
  go_wp2_with fail
  refine (hN.out _).mono ?_
  rintro e W2 ⟨rfl, hS, hb⟩
  obtain ⟨b, hb0⟩ : ∃ b, W1.heap.size = b := ⟨_, rfl⟩
  rw [hb0] at hS hb ⊢
  have hbw := hid (show w.heap.size ≤ b from by rw [← hb0]; exact hB1.out.size)
  rw [← hb0] at hb
  have hB2 := hid (below_up hb hB1.out)
  have hS2 := hid hS
  clear hb hS hB1 hb0 hN
  try (rename_i hKK; refine hKK _ _ ?_; clear hKK)
  go_wp2_with (go_at_call 13; refine (errNum_any _ _).mono ?_; rintro e w' ⟨rfl, rfl⟩)
  go_loopw [8, 9] (fun av ix wr => ∃ (i : Nat) (A : Option Addr) (c : Nat), i ≤ 16 ∧ av = .slice A i c ∧ ix = .int .i64 (i : Int) ∧ wr.ownsRow W2.heap.size 9 1 (.slice A i c) i (strs (rooms i)) ∧ Below W2.heap.size W2 wr) (fun _ ix _ => 16 - (intOf ix).toNat)
  case atStart => exact ⟨0, none, 0, by omega, rfl, rfl, ⟨rfl, .inl ⟨rfl, rfl⟩⟩, Below.refl _ _⟩
  case round =>
    obtain ⟨i, A1, c1, hi, rfl, rfl, hR, hBr⟩ := hrel
    obtain ⟨W10, rfl⟩ : ∃ V, V = wr := ⟨_, rfl⟩
    have hR10 := hid hR
    have hB10 := hid hBr
    clear hR hBr
    by_cases hlt : i < 16
    · have hlt' : (i : Int) < 16 := by omega
      have u1 := IntWalk.u8_in (i : Int) (by omega)
      have u3 := IntWalk.i64_in ((i : Int) + 1) (by omega)
      have hi6 := hid (show i ≤ 1000000 from by omega)
      obtain ⟨Wb, hWb⟩ : ∃ Wb, W10.alloc (.cells #[.int .u8 (i : Int)] 5) = Wb := ⟨_, rfl⟩
      have hHb := hid (show Holds Wb W10.heap.size 5 [.int .u8 (i : Int)] from by rw [← hWb]; exact Holds.new _ _ _)
      have hBb := hid (show Below W10.heap.size W10 Wb from by rw [← hWb]; exact (Below.refl _ _).alloc (Nat.le_refl _) _)
      have hWb' := hid hWb
      obtain ⟨nb, hnb⟩ : ∃ s : ByteArray, (⟨#[UInt8.ofNat i]⟩ : ByteArray) = s := ⟨_, rfl⟩
      have hby := room_byte i hlt
      have hns : nb.size = 1 := by rw [← hnb]; rfl
      rw [hnb] at hby
      have hcv := hid (run_convert_block (P := Try.prog) (w := Wb) (s := nb) (c := 1) 51 9 Try.underlying51 Try.underlying5 Try.underlying9 hns.symm hHb.out hby.symm)
      obtain ⟨ti, hti⟩ : ∃ s, roomT i = s := ⟨_, rfl⟩
      have hcat : (⟨#[111]⟩ : ByteArray) ++ nb = ti := by rw [← hnb, roomT_cat, hti]
      have hnext := hid (show rooms i ++ [ti] = rooms (i + 1) from by rw [← hti, rooms_succ])
      have hRb := hid (rown_on hR10.out hBb.out)
      have hBB := hid (below_up hBb.out hB10.out)
      clear hWb hnb hby hti
      go_wp2_with (first
        | ((with_reducible refine at_slot (some 45) ?_); refine wpList_run rfl (.slice (some ⟨W10.heap.size, 0, none⟩) 1 1) (W10.alloc (.cells #[.int .u8 (i : Int)] 5)) (by kernel_rfl) ?_; rw [hWb'.out])
        | ((with_reducible refine at_slot (some 46) ?_); refine wpList_convert rfl 51 9 (.tmp 45) rfl _ (.string nb) _ rfl (by exact hcv.out) ?_)
        | ((with_reducible refine at_slot (some 48) ?_); refine wpList_pushText rfl rfl (.tmp 47) (.tmp 42) (.tmp 48) rfl rfl W2.heap.size A1 i c1 (rooms i) ti rfl rfl rfl (by exact hi6.out) (by exact hRb.out) (by exact hBB.out.size) (i + 1) rfl ?_; intro A3 c3 W3 hrow3 hb3 _; have hR3 := hid hrow3; have hB3 := hid (hBB.out.trans hb3); clear hrow3 hb3)
        | fail)
      go_roundw
      case rel => exact ⟨i + 1, A3, c3, by omega, rfl, by go_num, by rw [← hnext.out]; exact hR3.out, hB3.out⟩
      case measure => simp [intOf]; omega
    · obtain rfl : i = 16 := by omega
      have hlt' : ¬ ((16 : Nat) : Int) < 16 := by decide
      have hX := hid (Texts.of_row hR10.out)
      go_wp2_with fail
      refine (clash_any A1 16 c1 (rooms 16) W10 hX.out (by decide) rooms_small).mono ?_
      rintro e W11 ⟨r, rfl, hr, hb⟩
      have hB11 := hid (below_up hb hB10.out)
      have hS11 := hid (hS2.out.on hB11.out)
      have hW11 := hid (hB2.out.trans (hB11.out.mono hB2.out.size))
      have hn11 := hid hB11.out.size
      have hbs := hid (show b + 1 < W2.heap.size ∧ b < W2.heap.size from by have := hS2.out.own.lt; omega)
      have hn2w := hid hB2.out.size
      have hr' := hid hr
      clear hb hr hB10 hR10 hX hB11
      try (rename_i hKK; refine hKK _ _ ?_; clear hKK)
      cases r
      · have hU := hid (unlike16 (hr'.out rfl))
        clear hr'
        go_wp2_with fail
        go_loopw [10, 11] (fun hv ix wr => ∃ (i m : Nat) (held : List ByteArray) (A : Option Addr) (c : Nat), i ≤ 40 ∧ hv = .slice A m c ∧ ix = .int .i64 (i : Int) ∧ Some16 held ∧ held.length = m ∧ m ≤ k ∧ StoreAt wr (b + 1) b k (obOf held) ∧ wr.ownsRow W2.heap.size 9 1 (.slice A m c) m (strs held) ∧ Below w.heap.size w wr ∧ W2.heap.size ≤ wr.heap.size) (fun _ ix _ => 40 - (intOf ix).toNat)
        case atStart => exact ⟨0, 0, [], none, 0, by omega, rfl, rfl, (fun y hy => by cases hy), rfl, Nat.zero_le _, hS11.out, ⟨rfl, .inl ⟨rfl, rfl⟩⟩, hW11.out, hn11.out⟩
        case round =>
          obtain ⟨i, m, held, A2, c2, hi40, rfl, rfl, hso, hlm, hmk, hS, hR, hBr, hn⟩ := hrel
          obtain ⟨W20, rfl⟩ : ∃ V, V = wr := ⟨_, rfl⟩
          have hS20 := hid hS
          have hR20 := hid hR
          have hB20 := hid hBr
          have hn20 := hid hn
          have hso' := hid hso
          have hlm' := hid hlm
          have hmk' := hid hmk
          clear hS hR hBr hn hso hlm hmk hS11 hW11 hn11
          by_cases hlt : i < n0 ∧ i < 40
          · obtain ⟨hl1, hl2⟩ := hlt
            have hl1' : (i : Int) < (n0 : Int) := by omega
            have hl2' : (i : Int) < 40 := by omega
            have s3 : (0 : Int) ≤ (i : Int) := by omega
            have hiw := IntWalk.i64_in ((i : Int) + 1) (by omega)
            obtain ⟨p, rfl, hpB, zc⟩ := (hI.out.below hB20.out).get hl1
            obtain ⟨z, hz⟩ : ∃ z, zs.getD i 0 = z := ⟨_, rfl⟩
            rw [hz] at zc
            clear hz hpB
            obtain ⟨q, hq, hand1, -⟩ := and_mask z 4 (by decide) 15 rfl
            have hq16 : q < 16 := hq
            have u1 := IntWalk.u8_in (q : Int) (by omega)
            obtain ⟨Wb, hWb⟩ : ∃ Wb, W20.alloc (.cells #[.int .u8 (q : Int)] 5) = Wb := ⟨_, rfl⟩
            have hHb := hid (show Holds Wb W20.heap.size 5 [.int .u8 (q : Int)] from by rw [← hWb]; exact Holds.new _ _ _)
            have hBb := hid (show Below W20.heap.size W20 Wb from by rw [← hWb]; exact (Below.refl _ _).alloc (Nat.le_refl _) _)
            have hWb' := hid hWb
            obtain ⟨nb, hnb⟩ : ∃ s : ByteArray, (⟨#[UInt8.ofNat q]⟩ : ByteArray) = s := ⟨_, rfl⟩
            have hby := room_byte q hq16
            have hns : nb.size = 1 := by rw [← hnb]; rfl
            rw [hnb] at hby
            have hcv := hid (run_convert_block (P := Try.prog) (w := Wb) (s := nb) (c := 1) 51 9 Try.underlying51 Try.underlying5 Try.underlying9 hns.symm hHb.out hby.symm)
            obtain ⟨xq, hxq⟩ : ∃ s, roomT q = s := ⟨_, rfl⟩
            have hcat : (⟨#[111]⟩ : ByteArray) ++ nb = xq := by rw [← hnb, roomT_cat, hxq]
            have hR21 := hid (rown_on hR20.out hBb.out)
            have hS21 := hid (hS20.out.on hBb.out)
            have hB21 := hid (below_up hBb.out hB20.out)
            have hn21 := hid (Nat.le_trans hn20.out hBb.out.size)
            have hX21 := hid (Texts.of_row hR21.out)
            have hinj := hid (show ∀ y ∈ held, obHash y = obHash xq → y = xq from by rw [← hxq]; exact hso'.out.inj hU.out hq16)
            have hsn := hid (show Some16 (held ++ [xq]) from by rw [← hxq]; exact hso'.out.snoc hq16)
            have hxs := hid (show xq.size = 2 from by rw [← hxq]; exact roomT_size q)
            obtain ⟨l, hl⟩ : ∃ l, obHash xq = l := ⟨_, rfl⟩
            have l32 := hid (show l.length = 32 from by rw [← hl]; exact obHash_len xq)
            have hOb := hid (fun V => rObjH hl (by rw [hxs.out]; decide) V)
            have hl' := hid hl
            clear hWb hnb hby hxq hl hq hR20 hS20 hB20 hn20 hBb
            go_wp2_with (first
              | ((with_reducible refine at_slot (some 68) ?_); refine wpList_run rfl (.slice (some ⟨W20.heap.size, 0, none⟩) 1 1) (W20.alloc (.cells #[.int .u8 (q : Int)] 5)) (by kernel_rfl) ?_; rw [hWb'.out])
              | ((with_reducible refine at_slot (some 69) ?_); refine wpList_convert rfl 51 9 (.tmp 68) rfl _ (.string nb) _ rfl (by exact hcv.out) ?_)
              | fail)
            clear hcv hWb' hHb hns hcat
            go_loopw [13, 14] (fun ov jx wr => ∃ j : Nat, j ≤ m ∧ ov = .bool (hasT (held.take j) xq) ∧ jx = .int .i64 (j : Int) ∧ wr = Wb) (fun _ jx _ => m - (intOf jx).toNat)
            case atStart => exact ⟨0, Nat.zero_le _, rfl, rfl, rfl⟩
            case round =>
              obtain ⟨j, hj, rfl, rfl, hwr⟩ := hrel
              obtain rfl := hwr.symm
              clear hwr
              by_cases hjt : j < m
              · have hjt' : (j : Int) < (m : Int) := by omega
                have s4 : (0 : Int) ≤ (j : Int) := by omega
                have hm9 := hmk'.out
                have hjw := IntWalk.i64_in ((j : Int) + 1) (by have := hkk.out; omega)
                obtain ⟨p2, rfl, -, y, -, hyj, hyc⟩ := hX21.out.get hjt
                have hst := hid (hasT_step (x := xq) hyj)
                clear hyj
                obtain ⟨ob, hob⟩ : ∃ ob, hasT (held.take j) xq = ob := ⟨_, rfl⟩
                rw [hob] at hst ⊢
                clear hob
                cases ob
                · by_cases hyx : y = xq
                  · subst hyx
                    go_wp2_with fail
                    go_roundw
                    case rel => exact ⟨j + 1, by omega, by rw [hst.out]; simp, by go_num, trivial⟩
                    case measure => simp [intOf]; omega
                  · have hnl : ¬ y.toList = xq.toList := fun e => hyx (by rw [Lib.toList_data, Lib.toList_data] at e; exact ByteArray.ext (Array.toList_inj.1 e))
                    have hst2 := hid (show hasT (held.take (j + 1)) xq = false from by rw [hst.out, Bool.false_or]; exact beq_eq_false_iff_ne.2 (fun e => hyx (ByteArray.ext (Array.toList_inj.1 e))))
                    clear hyx hst
                    go_wp2_with fail
                    go_roundw
                    case rel => exact ⟨j + 1, by omega, by rw [hst2.out, beq_eq_false_iff_ne.2 hnl], by go_num, trivial⟩
                    case measure => simp [intOf]; omega
                · go_wp2_with fail
                  go_roundw
                  case rel => exact ⟨j + 1, by omega, by rw [hst.out]; rfl, by go_num, trivial⟩
                  case measure => simp [intOf]; omega
              · obtain rfl : j = m := by omega
                have hjt' : ¬ (j : Int) < (j : Int) := by omega
                have hmk9 := hmk'.out
                have hk9 := hkk.out
                have hj1w := IntWalk.i64_in ((j : Int) + 1) (by omega)
                obtain ⟨W22, rfl⟩ : ∃ V, V = Wb := ⟨_, rfl⟩
                have hta : held.take j = held := List.take_of_length_le (by rw [hlm'.out]; exact Nat.le_refl _)
                rw [hta]
                clear hta hmk9 hk9
                by_cases hin : xq ∈ held
                · rw [hasT_yes hin]
                  have hPut := hid (fun V (h : StoreAt V (b + 1) b k (obOf held)) => rPutE ((putAns_of (by rw [hxs.out]; decide) hinj.out).1 hin) h)
                  rw [hl'.out] at hPut
                  have hS22 := hid hS21.out
                  have hR22 := hid hR21.out
                  have hB22 := hid hB21.out
                  have hn22 := hid hn21.out
                  have hC := hid (hash_cells l l32.out)
                  have hC2 := hid (show (Try.prog.info? 33).map (·.size) = some (byteCells l).length from by have := hC.out.size; rwa [List.size_toArray] at this)
                  have hLn := hid (fun V (h : StoreAt V (b + 1) b k (obOf (held))) => rLenE (show (held).length = j from by exact hlm'.out) h)
                  go_wp2_with fail
                  refine (hPut.out _ hS22.out).mono ?_
                  rintro e W23 ⟨rfl, hS, hg⟩
                  have hS23 := hid hS
                  have hB23 := hid (hB22.out.grown hg hB22.out.size (fun i e => by have := Option.some.inj e; have := hbw.out; omega))
                  have hR23 := hid (row_past hR22.out hg hbs.out.2)
                  have hn23 := hid (Nat.le_trans hn22.out hg.size)
                  clear hS hg hS22 hB22 hR22 hn22 hPut
                  try (rename_i hKK; refine hKK _ _ ?_; clear hKK)
                  go_wp2_with (first
                    | ((with_reducible refine at_slot (some 15) ?_); refine wpList_run rfl (.pointer (some ⟨W23.heap.size, 0, none⟩)) (W23.alloc (.cells z32 33)) (by kernel_rfl) ?_)
                    | ((with_reducible refine at_slot none ?_); refine wpList_store_mid rfl 33 (.tmp 15) (.tmp 90) rfl W23.heap.size 0 (byteCells l).toArray rfl rfl (by exact hC.out.there W23) (by exact hC.out.size) (by exact hC.out.one) ?_; generalize hW : World.setCells _ _ _ _ = W24; obtain ⟨hN, hb⟩ := hC.out.new hW; have hS24 := hid (hS23.out.on hb); have hR24 := hid (rown_on hR23.out hb); have hB24 := hid (below_up hb hB23.out); have hn24 := hid (Nat.le_trans hn23.out hb.size); have hY24 := hid hN; clear hb hS23 hR23 hB23 hn23 hN; clear hW)
                    | (go_at_call 13; refine (errNum_any _ _).mono ?_; rintro e w' ⟨rfl, rfl⟩)
                    | fail)
                  obtain ⟨gy, hgy⟩ : ∃ g, W23.heap.size = g := ⟨_, rfl⟩
                  rw [hgy] at hY24 ⊢
                  clear hgy
                  have hb : Below W24.heap.size W24 W24.drew := (Below.refl _ _).drew
                  have hS25 := hid (hS24.out.on hb)
                  have hR25 := hid (rown_on hR24.out hb)
                  have hB25 := hid (below_up hb hB24.out)
                  have hn25 := hid (Nat.le_trans hn24.out hb.size)
                  have hY25 := hid (hY24.out.below hb hY24.out.lt)
                  clear hb hS24 hR24 hB24 hn24 hY24
                  refine wp_region_held_drew (S := fun V => Holds V gy 33 (byteCells l) ∧ True) (by kernel_rfl) (by exact ⟨hY25.out, trivial⟩) (fun hHeld => ?_)
                  generalize W24.drew = W25 at *
                  refine tkn 0 (.bool true) rfl (by kernel_rfl) (fun _ _ _ h => h) (yieldsIf_move _ rfl rfl rfl) hHeld ?_
                  simp only [ly, Act.put]
                  refine tkn 1 (.bool true) rfl (by kernel_rfl) (fun _ _ _ h => h) (yieldsIf_move _ rfl rfl rfl) hHeld ?_
                  simp only [ly, Act.put]
                  refine tkn 2 (.agg (byteCells l).toArray) rfl (by kernel_rfl) (fun _ _ _ h => h) (yieldsIf_load_any (by kernel_rfl) _ _ rfl ⟨gy, 0, none⟩ rfl (byteCells l) _ (fun V hS => hS.1.anyO) Try.underlying33 rfl (by exact hC2.out)) hHeld ?_
                  simp only [ly, Act.put]
                  refine tkn 3 (.string xq) rfl (by kernel_rfl) (fun _ _ _ h => h) (.inl ⟨by kernel_rfl, fun w _ => by go_simp⟩) hHeld ?_
                  simp only [ly, Act.put]
                  refine wpAnyH_ready (rs := [4]) (by kernel_rfl) (by simp) (AllReadyH.cons rfl (fun K hK => ?_) AllReadyH.nil)
                  have hK' := hid hK
                  clear hK
                  rw [if_pos (by kernel_rfl)]
                  simp only [ly1, ly2, ly3]
                  go_simp
                  refine (hOb.out _).mono ?_
                  rintro e W26 ⟨rfl, hb⟩
                  have hS26 := hid (hS25.out.on hb)
                  have hR26 := hid (rown_on hR25.out hb)
                  have hB26 := hid (below_up hb hB25.out)
                  have hn26 := hid (Nat.le_trans hn25.out hb.size)
                  have hY26 := hid (hY25.out.below hb hY25.out.lt)
                  clear hb hS25 hR25 hB25 hn25 hY25
                  refine hK'.out _ _ (by exact ⟨hY26.out, trivial⟩) (fun hHeld => ?_)
                  clear hK' K
                  refine tkn 5 (.bool false) rfl (by kernel_rfl) (fun _ _ _ h => h) (yieldsIf_zneq (by kernel_rfl) (.tmp 124) (.tmp 126) _ rfl l l (by exact l32.out) (by exact l32.out) true (beq_self_eq_true _) rfl rfl) hHeld ?_
                  simp only [ly, Act.put]
                  refine tkn 6 (.bool false) rfl (by kernel_rfl) (fun _ _ _ h => h) (yieldsIf_pick _ _ _ rfl rfl rfl rfl) hHeld ?_
                  simp only [ly, Act.put]
                  refine tkn 7 (.bool false) rfl (by kernel_rfl) (fun _ _ _ h => h) (yieldsIf_move _ rfl rfl rfl) hHeld ?_
                  simp only [ly, Act.put]
                  refine tkn 8 (.pointer (some ⟨(b + 1), 0, none⟩)) rfl (by kernel_rfl) (fun _ _ _ h => h) (.inl ⟨by kernel_rfl, fun w _ => by go_simp⟩) hHeld ?_
                  simp only [ly, Act.put]
                  refine tkn 10 (.slice A2 j c2) rfl (by kernel_rfl) (fun _ _ _ h => h) (.inl ⟨by kernel_rfl, fun w _ => by go_simp⟩) hHeld ?_
                  simp only [ly, Act.put]
                  refine tkn 11 (.int .i64 (j : Int)) rfl (by kernel_rfl) (fun _ _ _ h => h) (.inl ⟨by kernel_rfl, fun w _ => by go_simp⟩) hHeld ?_
                  simp only [ly, Act.put]
                  refine wpAnyH_ready (rs := [9]) (by kernel_rfl) (by simp) (AllReadyH.cons rfl (fun K hK => ?_) AllReadyH.nil)
                  have hK' := hid hK
                  clear hK
                  rw [if_pos (by kernel_rfl)]
                  simp only [ly1, ly2, ly3]
                  go_simp
                  refine (hLn.out _ hS26.out).mono ?_
                  rintro e w' ⟨rfl, hw⟩
                  obtain rfl := hw.symm
                  clear hw
                  refine hK'.out _ _ (by exact ⟨hY26.out, trivial⟩) (fun hHeld => ?_)
                  clear hK' K
                  refine tkn 12 (.bool false) rfl (by kernel_rfl) (fun _ _ _ h => h) (.inl ⟨by kernel_rfl, fun w _ => by go_simp⟩) hHeld ?_
                  simp only [ly, Act.put]
                  refine tkn 13 (.bool false) rfl (by kernel_rfl) (fun _ _ _ h => h) (yieldsIf_pick _ _ _ rfl rfl rfl rfl) hHeld ?_
                  simp only [ly, Act.put]
                  refine wpAnyH_done (by kernel_rfl) ?_ _
                  go_wp2_with fail
                  go_roundw
                  case rel => exact ⟨i + 1, j, held, A2, c2, by omega, rfl, by go_num, hso'.out, hlm'.out, hmk'.out, hS26.out, hR26.out, hB26.out, hn26.out⟩
                  case measure => simp [intOf]; omega
                · rw [hasT_no hin]
                  by_cases hfit : j < k
                  · have hPut := hid (fun V (h : StoreAt V (b + 1) b k (obOf held)) => rPutE ((putAns_of (by rw [hxs.out]; decide) hinj.out).2.1 hin (by rw [hlm'.out]; exact hfit)) h)
                    have hfit' : (j : Int) < (k : Int) := by omega
                    rw [hl'.out] at hPut
                    have hS22 := hid hS21.out
                    have hR22 := hid hR21.out
                    have hB22 := hid hB21.out
                    have hn22 := hid hn21.out
                    have hC := hid (hash_cells l l32.out)
                    have hC2 := hid (show (Try.prog.info? 33).map (·.size) = some (byteCells l).length from by have := hC.out.size; rwa [List.size_toArray] at this)
                    obtain ⟨m1, hm1_⟩ : ∃ x, j + 1 = x := ⟨_, rfl⟩
                    have hm1 := hid hm1_
                    clear hm1_
                    have hLn := hid (fun V (h : StoreAt V (b + 1) b k (obOf (held ++ [xq]))) => rLenE (show (held ++ [xq]).length = m1 from by rw [List.length_append, hlm'.out]; exact hm1.out) h)
                    go_wp2_with fail
                    refine (hPut.out _ hS22.out).mono ?_
                    rintro e W23 ⟨rfl, hS, hg⟩
                    have hS23 := hid hS
                    have hB23 := hid (hB22.out.grown hg hB22.out.size (fun i e => by have := Option.some.inj e; have := hbw.out; omega))
                    have hR23 := hid (row_past hR22.out hg hbs.out.2)
                    have hn23 := hid (Nat.le_trans hn22.out hg.size)
                    clear hS hg hS22 hB22 hR22 hn22 hPut
                    try (rename_i hKK; refine hKK _ _ ?_; clear hKK)
                    go_wp2_with (first
                      | ((with_reducible refine at_slot (some 15) ?_); refine wpList_run rfl (.pointer (some ⟨W23.heap.size, 0, none⟩)) (W23.alloc (.cells z32 33)) (by kernel_rfl) ?_)
                      | ((with_reducible refine at_slot none ?_); refine wpList_store_mid rfl 33 (.tmp 15) (.tmp 90) rfl W23.heap.size 0 (byteCells l).toArray rfl rfl (by exact hC.out.there W23) (by exact hC.out.size) (by exact hC.out.one) ?_; generalize hW : World.setCells _ _ _ _ = W24; obtain ⟨hN, hb⟩ := hC.out.new hW; have hS24 := hid (hS23.out.on hb); have hR24 := hid (rown_on hR23.out hb); have hB24 := hid (below_up hb hB23.out); have hn24 := hid (Nat.le_trans hn23.out hb.size); have hY24 := hid hN; clear hb hS23 hR23 hB23 hn23 hN; clear hW)
                      | (go_at_call 13; refine (errNum_any _ _).mono ?_; rintro e w' ⟨rfl, rfl⟩)
                      | ((with_reducible refine at_slot (some 120) ?_); refine wpList_pushText rfl rfl (.tmp 119) (.tmp 118) (.tmp 120) rfl rfl W2.heap.size A2 j c2 held xq rfl rfl rfl (by have h1 := hmk'.out; have h2 := hkk.out; omega) (by exact hR24.out) hn24.out m1 hm1.out ?_; intro A3 c3 W25 hrow3 hb3 hg3; have hR25 := hid hrow3; have hS25 := hid (hS24.out.below hb3 hbs.out.1 hbs.out.2); have hB25 := hid (hB24.out.trans (hb3.mono hn2w.out)); have hY25 := hid (hY24.out.grown hg3 (fun e => own_ne hR24.out e.symm hY24.out (by decide) rfl)); have hn25 := hid (Nat.le_trans hn24.out hg3.size); clear hrow3 hb3 hg3 hS24 hR24 hB24 hY24 hn24)
                      | fail)
                    obtain ⟨gy, hgy⟩ : ∃ g, W23.heap.size = g := ⟨_, rfl⟩
                    rw [hgy] at hY25 ⊢
                    clear hgy
                    have hb : Below W25.heap.size W25 W25.drew := (Below.refl _ _).drew
                    have hS26 := hid (hS25.out.on hb)
                    have hR26 := hid (rown_on hR25.out hb)
                    have hB26 := hid (below_up hb hB25.out)
                    have hn26 := hid (Nat.le_trans hn25.out hb.size)
                    have hY26 := hid (hY25.out.below hb hY25.out.lt)
                    clear hb hS25 hR25 hB25 hn25 hY25
                    refine wp_region_held_drew (S := fun V => Holds V gy 33 (byteCells l) ∧ True) (by kernel_rfl) (by exact ⟨hY26.out, trivial⟩) (fun hHeld => ?_)
                    generalize W25.drew = W26 at *
                    refine tkn 0 (.bool true) rfl (by kernel_rfl) (fun _ _ _ h => h) (yieldsIf_move _ rfl rfl rfl) hHeld ?_
                    simp only [ly, Act.put]
                    refine tkn 1 (.bool true) rfl (by kernel_rfl) (fun _ _ _ h => h) (yieldsIf_move _ rfl rfl rfl) hHeld ?_
                    simp only [ly, Act.put]
                    refine tkn 2 (.agg (byteCells l).toArray) rfl (by kernel_rfl) (fun _ _ _ h => h) (yieldsIf_load_any (by kernel_rfl) _ _ rfl ⟨gy, 0, none⟩ rfl (byteCells l) _ (fun V hS => hS.1.anyO) Try.underlying33 rfl (by exact hC2.out)) hHeld ?_
                    simp only [ly, Act.put]
                    refine tkn 3 (.string xq) rfl (by kernel_rfl) (fun _ _ _ h => h) (.inl ⟨by kernel_rfl, fun w _ => by go_simp⟩) hHeld ?_
                    simp only [ly, Act.put]
                    refine wpAnyH_ready (rs := [4]) (by kernel_rfl) (by simp) (AllReadyH.cons rfl (fun K hK => ?_) AllReadyH.nil)
                    have hK' := hid hK
                    clear hK
                    rw [if_pos (by kernel_rfl)]
                    simp only [ly1, ly2, ly3]
                    go_simp
                    refine (hOb.out _).mono ?_
                    rintro e W27 ⟨rfl, hb⟩
                    have hS27 := hid (hS26.out.on hb)
                    have hR27 := hid (rown_on hR26.out hb)
                    have hB27 := hid (below_up hb hB26.out)
                    have hn27 := hid (Nat.le_trans hn26.out hb.size)
                    have hY27 := hid (hY26.out.below hb hY26.out.lt)
                    clear hb hS26 hR26 hB26 hn26 hY26
                    refine hK'.out _ _ (by exact ⟨hY27.out, trivial⟩) (fun hHeld => ?_)
                    clear hK' K
                    refine tkn 5 (.bool false) rfl (by kernel_rfl) (fun _ _ _ h => h) (yieldsIf_zneq (by kernel_rfl) (.tmp 124) (.tmp 126) _ rfl l l (by exact l32.out) (by exact l32.out) true (beq_self_eq_true _) rfl rfl) hHeld ?_
                    simp only [ly, Act.put]
                    refine tkn 6 (.bool false) rfl (by kernel_rfl) (fun _ _ _ h => h) (yieldsIf_pick _ _ _ rfl rfl rfl rfl) hHeld ?_
                    simp only [ly, Act.put]
                    refine tkn 7 (.bool false) rfl (by kernel_rfl) (fun _ _ _ h => h) (yieldsIf_move _ rfl rfl rfl) hHeld ?_
                    simp only [ly, Act.put]
                    refine tkn 8 (.pointer (some ⟨(b + 1), 0, none⟩)) rfl (by kernel_rfl) (fun _ _ _ h => h) (.inl ⟨by kernel_rfl, fun w _ => by go_simp⟩) hHeld ?_
                    simp only [ly, Act.put]
                    refine tkn 10 (.slice A3 m1 c3) rfl (by kernel_rfl) (fun _ _ _ h => h) (.inl ⟨by kernel_rfl, fun w _ => by go_simp⟩) hHeld ?_
                    simp only [ly, Act.put]
                    refine tkn 11 (.int .i64 (m1 : Int)) rfl (by kernel_rfl) (fun _ _ _ h => h) (.inl ⟨by kernel_rfl, fun w _ => by go_simp⟩) hHeld ?_
                    simp only [ly, Act.put]
                    refine wpAnyH_ready (rs := [9]) (by kernel_rfl) (by simp) (AllReadyH.cons rfl (fun K hK => ?_) AllReadyH.nil)
                    have hK' := hid hK
                    clear hK
                    rw [if_pos (by kernel_rfl)]
                    simp only [ly1, ly2, ly3]
                    go_simp
                    refine (hLn.out _ hS27.out).mono ?_
                    rintro e w' ⟨rfl, hw⟩
                    obtain rfl := hw.symm
                    clear hw
                    refine hK'.out _ _ (by exact ⟨hY27.out, trivial⟩) (fun hHeld => ?_)
                    clear hK' K
                    refine tkn 12 (.bool false) rfl (by kernel_rfl) (fun _ _ _ h => h) (.inl ⟨by kernel_rfl, fun w _ => by go_simp⟩) hHeld ?_
                    simp only [ly, Act.put]
                    refine tkn 13 (.bool false) rfl (by kernel_rfl) (fun _ _ _ h => h) (yieldsIf_pick _ _ _ rfl rfl rfl rfl) hHeld ?_
                    simp only [ly, Act.put]
                    refine wpAnyH_done (by kernel_rfl) ?_ _
                    go_wp2_with fail
                    go_roundw
                    case rel => exact ⟨i + 1, m1, held ++ [xq], A3, c3, by omega, rfl, by go_num, hsn.out, (by rw [List.length_append, hlm'.out]; exact hm1.out), (by have := hm1.out; omega), hS27.out, hR27.out, hB27.out, hn27.out⟩
                    case measure => simp [intOf]; omega
                  · have hPut := hid (fun V (h : StoreAt V (b + 1) b k (obOf held)) => rPutE ((putAns_of (by rw [hxs.out]; decide) hinj.out).2.2 hin (by rw [hlm'.out]; exact hfit)) h)
                    have hfit' : ¬ (j : Int) < (k : Int) := by omega
                    have hS22 := hid hS21.out
                    have hR22 := hid hR21.out
                    have hB22 := hid hB21.out
                    have hn22 := hid hn21.out
                    have hC := hid (hash_cells (List.replicate 32 0) rfl)
                    have hC2 := hid (show (Try.prog.info? 33).map (·.size) = some (byteCells (List.replicate 32 0)).length from by have := hC.out.size; rwa [List.size_toArray] at this)
                    have hLn := hid (fun V (h : StoreAt V (b + 1) b k (obOf (held))) => rLenE (show (held).length = j from by exact hlm'.out) h)
                    go_wp2_with fail
                    refine (hPut.out _ hS22.out).mono ?_
                    rintro e W23 ⟨rfl, hS, hg⟩
                    have hS23 := hid hS
                    have hB23 := hid (hB22.out.grown hg hB22.out.size (fun i e => by have := Option.some.inj e; have := hbw.out; omega))
                    have hR23 := hid (row_past hR22.out hg hbs.out.2)
                    have hn23 := hid (Nat.le_trans hn22.out hg.size)
                    clear hS hg hS22 hB22 hR22 hn22 hPut
                    try (rename_i hKK; refine hKK _ _ ?_; clear hKK)
                    go_wp2_with (first
                      | ((with_reducible refine at_slot (some 15) ?_); refine wpList_run rfl (.pointer (some ⟨W23.heap.size, 0, none⟩)) (W23.alloc (.cells z32 33)) (by kernel_rfl) ?_)
                      | ((with_reducible refine at_slot none ?_); refine wpList_store_mid rfl 33 (.tmp 15) (.tmp 90) rfl W23.heap.size 0 (byteCells (List.replicate 32 0)).toArray rfl rfl (by exact hC.out.there W23) (by exact hC.out.size) (by exact hC.out.one) ?_; generalize hW : World.setCells _ _ _ _ = W24; obtain ⟨hN, hb⟩ := hC.out.new hW; have hS24 := hid (hS23.out.on hb); have hR24 := hid (rown_on hR23.out hb); have hB24 := hid (below_up hb hB23.out); have hn24 := hid (Nat.le_trans hn23.out hb.size); have hY24 := hid hN; clear hb hS23 hR23 hB23 hn23 hN; clear hW)
                      | (go_at_call 13; refine (errNum_any _ _).mono ?_; rintro e w' ⟨rfl, rfl⟩)
                      | fail)
                    obtain ⟨gy, hgy⟩ : ∃ g, W23.heap.size = g := ⟨_, rfl⟩
                    rw [hgy] at hY24 ⊢
                    clear hgy
                    have hb : Below W24.heap.size W24 W24.drew := (Below.refl _ _).drew
                    have hS25 := hid (hS24.out.on hb)
                    have hR25 := hid (rown_on hR24.out hb)
                    have hB25 := hid (below_up hb hB24.out)
                    have hn25 := hid (Nat.le_trans hn24.out hb.size)
                    have hY25 := hid (hY24.out.below hb hY24.out.lt)
                    clear hb hS24 hR24 hB24 hn24 hY24
                    refine wp_region_held_drew (S := fun V => Holds V gy 33 (byteCells (List.replicate 32 0)) ∧ True) (by kernel_rfl) (by exact ⟨hY25.out, trivial⟩) (fun hHeld => ?_)
                    generalize W24.drew = W25 at *
                    refine tkn 0 (.bool false) rfl (by kernel_rfl) (fun _ _ _ h => h) (yieldsIf_move _ rfl rfl rfl) hHeld ?_
                    simp only [ly, Act.put]
                    refine tkn 1 (.bool false) rfl (by kernel_rfl) (fun _ _ _ h => h) (yieldsIf_move _ rfl rfl rfl) hHeld ?_
                    simp only [ly, Act.put]
                    refine tkn 2 undef rfl (by kernel_rfl) (fun _ _ _ h => h) (.inr ⟨by kernel_rfl, rfl⟩) hHeld ?_
                    simp only [ly, Act.put]
                    refine tkn 3 undef rfl (by kernel_rfl) (fun _ _ _ h => h) (.inr ⟨by kernel_rfl, rfl⟩) hHeld ?_
                    simp only [ly, Act.put]
                    refine tkn 4 undef rfl (by kernel_rfl) (fun _ _ _ h => h) (.inr ⟨by kernel_rfl, rfl⟩) hHeld ?_
                    simp only [ly, Act.put]
                    refine tkn 5 undef rfl (by kernel_rfl) (fun _ _ _ h => h) (.inr ⟨by kernel_rfl, rfl⟩) hHeld ?_
                    simp only [ly, Act.put]
                    refine tkn 6 (.bool false) rfl (by kernel_rfl) (fun _ _ _ h => h) (yieldsIf_pick _ _ _ rfl rfl rfl rfl) hHeld ?_
                    simp only [ly, Act.put]
                    refine tkn 7 (.bool false) rfl (by kernel_rfl) (fun _ _ _ h => h) (yieldsIf_move _ rfl rfl rfl) hHeld ?_
                    simp only [ly, Act.put]
                    refine tkn 8 (.pointer (some ⟨(b + 1), 0, none⟩)) rfl (by kernel_rfl) (fun _ _ _ h => h) (.inl ⟨by kernel_rfl, fun w _ => by go_simp⟩) hHeld ?_
                    simp only [ly, Act.put]
                    refine tkn 10 (.slice A2 j c2) rfl (by kernel_rfl) (fun _ _ _ h => h) (.inl ⟨by kernel_rfl, fun w _ => by go_simp⟩) hHeld ?_
                    simp only [ly, Act.put]
                    refine tkn 11 (.int .i64 (j : Int)) rfl (by kernel_rfl) (fun _ _ _ h => h) (.inl ⟨by kernel_rfl, fun w _ => by go_simp⟩) hHeld ?_
                    simp only [ly, Act.put]
                    refine wpAnyH_ready (rs := [9]) (by kernel_rfl) (by simp) (AllReadyH.cons rfl (fun K hK => ?_) AllReadyH.nil)
                    have hK' := hid hK
                    clear hK
                    rw [if_pos (by kernel_rfl)]
                    simp only [ly1, ly2, ly3]
                    go_simp
                    refine (hLn.out _ hS25.out).mono ?_
                    rintro e w' ⟨rfl, hw⟩
                    obtain rfl := hw.symm
                    clear hw
                    refine hK'.out _ _ (by exact ⟨hY25.out, trivial⟩) (fun hHeld => ?_)
                    clear hK' K
                    refine tkn 12 (.bool false) rfl (by kernel_rfl) (fun _ _ _ h => h) (.inl ⟨by kernel_rfl, fun w _ => by go_simp⟩) hHeld ?_
                    simp only [ly, Act.put]
                    refine tkn 13 (.bool false) rfl (by kernel_rfl) (fun _ _ _ h => h) (yieldsIf_pick _ _ _ rfl rfl rfl rfl) hHeld ?_
                    simp only [ly, Act.put]
                    refine wpAnyH_done (by kernel_rfl) ?_ _
                    go_wp2_with fail
                    go_roundw
                    case rel => exact ⟨i + 1, j, held, A2, c2, by omega, rfl, by go_num, hso'.out, hlm'.out, hmk'.out, hS25.out, hR25.out, hB25.out, hn25.out⟩
                    case measure => simp [intOf]; omega
          · have hend : ¬ ((i : Int) < (n0 : Int)) ∨ ((i : Int) < (n0 : Int)) ∧ ¬ ((i : Int) < 40) := by omega
            clear hlt
            have hm9 := hmk'.out
            have hk9 := hkk.out
            have hm64 := hid (show m ≤ 8 from by omega)
            clear hm9 hk9
            rcases hend with hend | ⟨hend, hend2⟩
            all_goals
              go_wp2_with fail
              go_loopw [18] (fun jx wr => ∃ j : Nat, j ≤ m ∧ jx = .int .i64 (j : Int) ∧ StoreAt wr (b + 1) b k (obOf held) ∧ wr.ownsRow W2.heap.size 9 1 (.slice A2 m c2) m (strs held) ∧ Below w.heap.size w wr) (fun jx _ => m - (intOf jx).toNat)
              case atStart => exact ⟨0, Nat.zero_le _, rfl, hS20.out, hR20.out, hB20.out⟩
              case round =>
                obtain ⟨j, hj, rfl, hS, hR, hBr⟩ := hrel
                obtain ⟨W30, rfl⟩ : ∃ V, V = wr := ⟨_, rfl⟩
                have hS30 := hid hS
                have hR30 := hid hR
                have hB30 := hid hBr
                clear hS hR hBr
                by_cases hjt : j < m
                · have hjt' : (j : Int) < (m : Int) := by omega
                  have s4 : (0 : Int) ≤ (j : Int) := by omega
                  have hjw := IntWalk.i64_in ((j : Int) + 1) (by have := hm64.out; omega)
                  obtain ⟨p2, rfl, -, y, hyh, hyj, hyc⟩ := (Texts.of_row hR30.out).get hjt
                  obtain ⟨qy, hqy, hy⟩ := hso'.out y hyh
                  obtain ⟨ly, hly⟩ : ∃ l, obHash y = l := ⟨_, rfl⟩
                  have ly32 := hid (show ly.length = 32 from by rw [← hly]; exact obHash_len y)
                  have hys : y.size = 2 := by rw [hy]; exact roomT_size qy
                  have hOy := hid (fun V => rObjH hly (by rw [hys]; decide) V)
                  have hget : obGet (obOf held) ly = some y := by
                    rw [← hly]
                    exact obOf_yes (fun u hu he => by rw [hy] at he ⊢; exact hso'.out.inj hU.out hqy u hu he) hyh
                  have hGt := hid (fun V (h : StoreAt V (b + 1) b k (obOf held)) => rGetE ly32.out hget h)
                  have hyj' := hid hyj
                  clear hget hys hy hqy hly hyh hyj
                  go_wp2_with fail
                  refine (hOy.out _).mono ?_
                  rintro e W31 ⟨rfl, hb⟩
                  have hS31 := hid (hS30.out.on hb)
                  have hR31 := hid (rown_on hR30.out hb)
                  have hB31 := hid (below_up hb hB30.out)
                  clear hb hS30 hR30 hB30 hyc
                  try (rename_i hKK; refine hKK _ _ ?_; clear hKK)
                  go_wp2_with fail
                  refine (hGt.out _ hS31.out).mono ?_
                  rintro e W32 ⟨rfl, hb⟩
                  have hS32 := hid (hS31.out.on hb)
                  have hR32 := hid (rown_on hR31.out hb)
                  have hB32 := hid (below_up hb hB31.out)
                  clear hb hS31 hR31 hB31
                  obtain ⟨p3, hp3, -, y3, -, hyj3, hyc3⟩ := (Texts.of_row hR32.out).get hjt
                  obtain rfl := Option.some.inj hp3
                  rw [hyj'.out] at hyj3
                  obtain rfl := Option.some.inj hyj3
                  clear hp3 hyj3
                  try (rename_i hKK; refine hKK _ _ ?_; clear hKK)
                  go_wp2_with (go_at_call 13; refine (errNum_any _ _).mono ?_; rintro e w' ⟨rfl, rfl⟩)
                  go_roundw
                  case rel => exact ⟨j + 1, by omega, by go_num, hS32.out, hR32.out, hB32.out⟩
                  case measure => simp [intOf]; omega
                · obtain rfl : j = m := by omega
                  have hjt' : ¬ (j : Int) < (j : Int) := by omega
                  go_wp2_with fail
                  go_ret
                  exact ⟨rfl, hB30.out⟩
      · go_wp2_with fail
        go_ret
        exact ⟨rfl, hW11.out⟩


end Go.Proofs.Ytpjfhbmegabafaa
