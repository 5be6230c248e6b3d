/- Layer 12, the program's side: cut, of bytes and of hashes. -/
import Derived.Test.YtpjfhbmegabafaaLRangeOwn
import Derived.Test.YtpjfhbmegabafaaLObPr
namespace Go.Proofs.Ytpjfhbmegabafaa
open Go.RowKit
attribute [local irreducible] Sha.compress Sha.blocks Sha.sha Sha.pad

/-- Into how many pieces of n things cut makes so many. -/
def cutN (n len : Nat) : Nat := (len + n - 1) / n
theorem cutN_lt {n len i : Nat} (hn : 1 ≤ n) : i < cutN n len ↔ i * n < len := by
  unfold cutN
  rw [Nat.lt_div_iff_mul_lt (by omega)]
  rw [Nat.mul_comm]
  omega
theorem slice_put {w W : World} {g : Nat} {t : TypeId} {v u : Value} (h : Holds w g t [v]) (e : w.setCell ⟨g, 0, none⟩ u = W) : Holds W g t [u] := by
  subst e
  exact h.set 0 u
/-- What the iterator holds in the round of piece i: what is left of the list. -/
structure CutAt (W : World) (c1 c2 : Nat) (t : TypeId) (A : Option Addr) (p : Addr) (len cap n sz i : Nat) (A' : Option Addr) (l' c' : Nat) : Prop where
  ls : Holds W c1 t [.slice A' l' c']
  num : Holds W c2 3 [.int .i64 (n : Int)]
  ll : l' = len - i * n
  at_ : i * n < len → A' = some (p.add (i * n * sz)) ∧ c' = cap - i * n
section
variable {W W' : World} {c1 c2 len cap n sz i l' c' : Nat} {t : TypeId} {A A' : Option Addr} {p : Addr}
theorem CutAt.below (h : CutAt W c1 c2 t A p len cap n sz i A' l' c') (hb : Below W.heap.size W W') : CutAt W' c1 c2 t A p len cap n sz i A' l' c' := ⟨h.ls.below hb h.ls.lt, h.num.below hb h.num.lt, h.ll, h.at_⟩
theorem CutAt.keep {X : Nat → Prop} (h : CutAt W c1 c2 t A p len cap n sz i A' l' c') (hk : KeepX X W W') (h1 : ¬ X c1) (h2 : ¬ X c2) : CutAt W' c1 c2 t A p len cap n sz i A' l' c' := ⟨hk.holds h.ls h1, hk.holds h.num h2, h.ll, h.at_⟩
end

def cutL (c1 : Nat) (w : World) : Nat := match w.cell? ⟨c1, 0, none⟩ with
  | some (.slice _ l _) => l
  | _ => 0
theorem cutL_is {w : World} {c1 l c : Nat} {t : TypeId} {A : Option Addr} (h : Holds w c1 t [.slice A l c]) : cutL c1 w = l := by
  unfold cutL
  rw [h.cO 0 _ rfl]
theorem holds_apart {w : World} {g h : Nat} {t u : TypeId} {cs ds : List Value} (a : Holds w g t cs) (b : Holds w h u ds) (e : t ≠ u) : g ≠ h := by
  rintro rfl
  unfold Holds at a b
  rw [a] at b
  injection b with b
  injection b with _ b
  exact e b

set_option maxRecDepth 100000 in
theorem cutB_any (A : Option Addr) (len cap n : Nat) (w : World) : Calls Try.prog 41 #[.slice A len cap, .int .i64 (n : Int)] w fun e w' => e = .returned (.func (.func 65) #[] #[.pointer (some ⟨w.heap.size, 0, none⟩), .pointer (some ⟨w.heap.size + 1, 0, none⟩)]) ∧ Holds w' w.heap.size 51 [.slice A len cap] ∧ Holds w' (w.heap.size + 1) 3 [.int .i64 (n : Int)] ∧ Below w.heap.size w w' ∧ w'.heap.size = w.heap.size + 2 := by
  obtain ⟨W1, hW1⟩ : ∃ V, w.alloc (.cells #[.slice A len cap] 51) = V := ⟨_, rfl⟩
  have hs1 : W1.heap.size = w.heap.size + 1 := by rw [← hW1]; simp
  have hH1 : Holds W1 w.heap.size 51 [.slice A len cap] := by rw [← hW1]; exact Holds.new w 51 #[.slice A len cap]
  have hb1 : Below w.heap.size w W1 := by rw [← hW1]; exact (Below.refl _ _).alloc (Nat.le_refl _) _
  obtain ⟨W2, hW2⟩ : ∃ V, W1.alloc (.cells #[.int .i64 (n : Int)] 3) = V := ⟨_, rfl⟩
  have hs2 : W2.heap.size = w.heap.size + 2 := by rw [← hW2, World.size_alloc, hs1]
  have hH2 := hid (show Holds W2 w.heap.size 51 [.slice A len cap] from by rw [← hW2]; exact hH1.alloc _)
  have hN2 := hid (show Holds W2 (w.heap.size + 1) 3 [.int .i64 (n : Int)] from by rw [← hW2, ← hs1]; exact Holds.new W1 3 #[.int .i64 (n : Int)])
  have hb2 := hid (show Below w.heap.size w W2 from by rw [← hW2]; exact hb1.alloc hb1.size _)
  have hW1' := hid hW1
  have hW2' := hid hW2
  have hs1' := hid hs1
  have hs2' := hid hs2
  clear hW1 hW2 hs1 hs2 hH1 hb1
  go_enter Try.func41, Try.ntmps41
  go_wp2_with (first
    | ((with_reducible refine at_slot (some 2) ?_); refine wpList_run rfl (.pointer (some ⟨w.heap.size, 0, none⟩)) (w.alloc (.cells #[.slice A len cap] 51)) (by kernel_rfl) ?_; rw [hW1'.out])
    | ((with_reducible refine at_slot (some 3) ?_); refine wpList_run rfl (.pointer (some ⟨w.heap.size + 1, 0, none⟩)) (W1.alloc (.cells #[.int .i64 (n : Int)] 3)) (by rw [← hs1'.out]; kernel_rfl) ?_; rw [hW2'.out])
    | fail)
  go_ret
  exact ⟨rfl, hH2.out, hN2.out, hb2.out, hs2'.out⟩

set_option maxRecDepth 100000 in
set_option maxHeartbeats 1000000 in
theorem cutB_all (m : Nat) (X : Nat → Prop) (c1 c2 : Nat) (A : Option Addr) (p : Addr) (len cap n : Nat) (hA : 0 < len → A = some p) (hn1 : 1 ≤ n) (hn2 : n ≤ 100000) (hl : len ≤ 100000000) (hlc : len ≤ cap) (hcc : cap ≤ 9223372036854775807) (x1 : ¬ X c1) (x2 : ¬ X c2) (w : World) (hX : ∀ k, X k → k < w.heap.size)
    (h1 : Holds w c1 51 [.slice A len cap]) (h2 : Holds w c2 3 [.int .i64 (n : Int)]) :
    SeqOwn Fence.wide (m + 1) Try.prog 65 #[.pointer (some ⟨c1, 0, none⟩), .pointer (some ⟨c2, 0, none⟩)] (fun i : Nat => #[.slice (some (p.add (i * n * 1))) (min n (len - i * n)) (cap - i * n)]) (fun k => k = c1) (fun o => KeepX (fun k => X k ∨ o k)) (fun l => l = List.range (cutN n len)) (cutN n len) w := fun l J W hW hJ hJo hY hj0 => by
  have hne := hid (show c1 ≠ c2 from holds_apart h1 h2 (by decide))
  have hC0 := hid (show CutAt W c1 c2 51 A p len cap n 1 0 A len cap from ⟨h1.below hW h1.lt, h2.below hW h2.lt, by omega, fun h => ⟨by rw [hA (by omega)]; congr 1; unfold Addr.add; split <;> simp_all, by omega⟩⟩)
  have hlt := hid (show c1 < W.heap.size ∧ c2 < W.heap.size from ⟨(h1.below hW h1.lt).lt, (h2.below hW h2.lt).lt⟩)
  have hXw := hid (fun k hx => Nat.lt_of_lt_of_le (hX k hx) hW.size)
  have hYy := hid hY
  have hJj := hid hJ
  have hJo' := hid hJo
  have hj0' := hid hj0
  have hn1' := hid hn1
  clear h1 h2 hA hX hY hJ hJo hj0 hW
  refine callsIn_of_wp Try.func65 rfl trivial ?_ rfl
  simp only [Try.ntmps65, List.size_toArray, List.length_cons, List.length_nil, Nat.reduceAdd, Nat.reduceSub, Array.replicate_succ, Array.replicate_zero, List.push_toArray, List.append_toArray, List.nil_append, List.cons_append]
  gi_wp2_with fail
  gi_loopw [] (fun wr => ∃ (i : Nat) (o : Nat → Prop) (A' : Option Addr) (l' c' : Nat), CutAt wr c1 c2 51 A p len cap n 1 i A' l' c' ∧ J (List.range i) o wr ∧ i ≤ cutN n len ∧ W.heap.size ≤ wr.heap.size) (fun wr => cutL c1 wr)
  case atStart => exact ⟨0, _, A, len, cap, hC0.out, hj0'.out, Nat.zero_le _, Nat.le_refl _⟩
  case round =>
    obtain ⟨i, o, A', l', c', hC, hj, hi, hsz⟩ := hrel
    obtain ⟨Wa, rfl⟩ : ∃ V, V = wr := ⟨_, rfl⟩
    have hCa := hid hC
    have hja := hid hj
    have hza := hid hsz
    have cc1 := hC.ls.cO 0 _ rfl
    have cc2 := hC.num.cO 0 _ rfl
    have hl' := hid hC.ll
    have hms := hid (cutL_is hC.ls)
    clear hC hj hsz hC0 hj0'
    by_cases hil : i * n < len
    · obtain ⟨q, hq⟩ : ∃ q, i * n * 1 = q := ⟨_, rfl⟩
      obtain ⟨hA', rfl⟩ := hCa.out.at_ hil
      rw [hq] at hA'
      obtain rfl := hA'
      have hq' := hid hq
      have hpos : (0 : Int) < (l' : Int) := by have := hl'.out; omega
      have hic : i < cutN n len := (cutN_lt hn1).2 hil
      obtain ⟨sz, hs⟩ : ∃ s, min n l' = s := ⟨_, rfl⟩
      have hs1 : sz ≤ l' ∧ sz ≤ cap - i * n ∧ 1 ≤ sz ∧ l' ≤ cap - i * n := by have := hl'.out; omega
      have hsi : min (n : Int) (l' : Int) = (sz : Int) := by omega
      have hsw := IntWalk.i64_in (sz : Int) (by omega)
      obtain ⟨fn1, tmps1, assign1, body1, hy1, hR1⟩ : YieldAt Fence.wide m Try.prog l #[.slice (some (p.add q)) sz (cap - i * n)] Wa (fun e W' => e = .returned (.bool true) ∧ ∃ o', FreshP Wa o o' ∧ J (List.range i ++ [i]) o' W' ∧ KeepX (fun k => X k ∨ o k) Wa W') := by
        have := hYy.out (List.range i) i o Wa hja.out (by rw [List.length_range]; exact hic)
        rw [← hl'.out, hs, hq] at this
        exact this
      have b1 : (sz : Int) ≤ ((cap - i * n : Nat) : Int) := by omega
      have b2 : (sz : Int) ≤ (l' : Int) := by omega
      have b3 : (0 : Int) ≤ (sz : Int) := by omega
      have hne1 := hid (show i * n + sz = (i + 1) * n ∨ len ≤ (i + 1) * n from by
        rw [Nat.add_mul, Nat.one_mul]
        have := hl'.out
        omega)
      have hls := hid (show l' - sz = len - (i + 1) * n from by
        rw [Nat.add_mul, Nat.one_mul]
        have := hl'.out
        omega)
      clear hq
      gi_wp2_with fail
      refine hR1.mono ?_
      rintro e Wf ⟨rfl, o2, hF5, hJ5, hK5⟩
      have hoc : ∀ k, (X k ∨ o k) → k ≠ c1 ∧ k ≠ c2 := fun k hk => by
        rcases hk with h | h
        · exact ⟨fun e => x1 (e ▸ h), fun e => x2 (e ▸ h)⟩
        · have h1 := hJo'.out _ o Wa k hja.out h
          have h2 := hlt.out
          omega
      have hCf := hid (hCa.out.keep hK5 (fun h => (hoc c1 h).1 rfl) (fun h => (hoc c2 h).2 rfl))
      have hJf := hid hJ5
      have hzf := hid (Nat.le_trans hza.out hK5.1)
      clear hK5 hJ5 hF5 hy1 hR1 hCa hja hza cc1 cc2
      have cc1 := hCf.out.ls.cO 0 _ rfl
      have f1 := hCf.out.ls.frozen 0
      obtain ⟨Wg, hWg⟩ : ∃ V, Wf.setCell ⟨c1, 0, none⟩ (.slice (if cap - i * n = sz then some (p.add q) else some ((p.add q).add sz)) (l' - sz) (cap - i * n - sz)) = V := ⟨_, rfl⟩
      have hCg := hid (show CutAt Wg c1 c2 51 A p len cap n 1 (i + 1) (if cap - i * n = sz then some (p.add q) else some ((p.add q).add sz)) (l' - sz) (cap - i * n - sz) from ⟨slice_put hCf.out.ls hWg, by rw [← hWg]; exact hCf.out.num.far ⟨c1, 0, none⟩ (Ne.symm hne.out) _, hls.out, fun hlt3 => by
        have e1 : (i + 1) * n = i * n + n := by rw [Nat.add_mul, Nat.one_mul]
        have e2 := hl'.out
        have e3 : sz = n := by omega
        rw [if_neg (by omega), add_add, e3, e1, ← hq'.out, Nat.add_mul]
        exact ⟨by first | rfl | (rw [Nat.mul_one, Nat.mul_one]), by omega⟩⟩)
      have hJg := hid (hJj.out (List.range i ++ [i]) o2 Wf Wg (some c1) hJf.out (by rw [← hWg]; exact ⟨rfl, rfl, rfl, by simp [World.setCell], fun k _ hk => heap_setCell_other _ _ _ _ (fun e => hk (by rw [e]))⟩) (fun r e => .inr (Option.some.inj e).symm))
      have hzg := hid (show W.heap.size ≤ Wg.heap.size from by rw [← hWg, World.size_setCell]; exact hzf.out)
      have hmg := hid (cutL_is hCg.out.ls)
      have hWg' := hid hWg
      clear hWg
      gi_wp2_with fail
      go_roundw
      case rel => exact ⟨i + 1, o2, _, _, _, by rw [hWg'.out]; exact hCg.out, by rw [hWg'.out, List.range_succ]; exact hJg.out, hic, by rw [hWg'.out]; exact hzg.out⟩
      case measure => rw [hWg'.out, hmg.out, hms.out]; omega
    · have hpos : ¬ (0 : Int) < (l' : Int) := by have := hl'.out; omega
      have hic := hid (show i = cutN n len from by
        have := mt (cutN_lt (len := len) (i := i) hn1).1 hil
        omega)
      gi_wp2_with fail
      go_end0
      exact ⟨⟨_, rfl⟩, o, by rw [← hic.out]; exact hja.out⟩

set_option maxRecDepth 100000 in
theorem cutH_any (A : Option Addr) (len cap n : Nat) (w : World) : Calls Try.prog 42 #[.slice A len cap, .int .i64 (n : Int)] w fun e w' => e = .returned (.func (.func 66) #[] #[.pointer (some ⟨w.heap.size, 0, none⟩), .pointer (some ⟨w.heap.size + 1, 0, none⟩)]) ∧ Holds w' w.heap.size 62 [.slice A len cap] ∧ Holds w' (w.heap.size + 1) 3 [.int .i64 (n : Int)] ∧ Below w.heap.size w w' ∧ w'.heap.size = w.heap.size + 2 := by
  obtain ⟨W1, hW1⟩ : ∃ V, w.alloc (.cells #[.slice A len cap] 62) = V := ⟨_, rfl⟩
  have hs1 : W1.heap.size = w.heap.size + 1 := by rw [← hW1]; simp
  have hH1 : Holds W1 w.heap.size 62 [.slice A len cap] := by rw [← hW1]; exact Holds.new w 62 #[.slice A len cap]
  have hb1 : Below w.heap.size w W1 := by rw [← hW1]; exact (Below.refl _ _).alloc (Nat.le_refl _) _
  obtain ⟨W2, hW2⟩ : ∃ V, W1.alloc (.cells #[.int .i64 (n : Int)] 3) = V := ⟨_, rfl⟩
  have hs2 : W2.heap.size = w.heap.size + 2 := by rw [← hW2, World.size_alloc, hs1]
  have hH2 := hid (show Holds W2 w.heap.size 62 [.slice A len cap] from by rw [← hW2]; exact hH1.alloc _)
  have hN2 := hid (show Holds W2 (w.heap.size + 1) 3 [.int .i64 (n : Int)] from by rw [← hW2, ← hs1]; exact Holds.new W1 3 #[.int .i64 (n : Int)])
  have hb2 := hid (show Below w.heap.size w W2 from by rw [← hW2]; exact hb1.alloc hb1.size _)
  have hW1' := hid hW1
  have hW2' := hid hW2
  have hs1' := hid hs1
  have hs2' := hid hs2
  clear hW1 hW2 hs1 hs2 hH1 hb1
  go_enter Try.func42, Try.ntmps42
  go_wp2_with (first
    | ((with_reducible refine at_slot (some 2) ?_); refine wpList_run rfl (.pointer (some ⟨w.heap.size, 0, none⟩)) (w.alloc (.cells #[.slice A len cap] 62)) (by kernel_rfl) ?_; rw [hW1'.out])
    | ((with_reducible refine at_slot (some 3) ?_); refine wpList_run rfl (.pointer (some ⟨w.heap.size + 1, 0, none⟩)) (W1.alloc (.cells #[.int .i64 (n : Int)] 3)) (by rw [← hs1'.out]; kernel_rfl) ?_; rw [hW2'.out])
    | fail)
  go_ret
  exact ⟨rfl, hH2.out, hN2.out, hb2.out, hs2'.out⟩

set_option maxRecDepth 100000 in
set_option maxHeartbeats 1000000 in
theorem cutH_all (m : Nat) (X : Nat → Prop) (c1 c2 : Nat) (A : Option Addr) (p : Addr) (len cap n : Nat) (hA : 0 < len → A = some p) (hn1 : 1 ≤ n) (hn2 : n ≤ 100000) (hl : len ≤ 100000000) (hlc : len ≤ cap) (hcc : cap ≤ 9223372036854775807) (x1 : ¬ X c1) (x2 : ¬ X c2) (w : World) (hX : ∀ k, X k → k < w.heap.size)
    (h1 : Holds w c1 62 [.slice A len cap]) (h2 : Holds w c2 3 [.int .i64 (n : Int)]) :
    SeqOwn Fence.wide (m + 1) Try.prog 66 #[.pointer (some ⟨c1, 0, none⟩), .pointer (some ⟨c2, 0, none⟩)] (fun i : Nat => #[.slice (some (p.add (i * n * 32))) (min n (len - i * n)) (cap - i * n)]) (fun k => k = c1) (fun o => KeepX (fun k => X k ∨ o k)) (fun l => l = List.range (cutN n len)) (cutN n len) w := fun l J W hW hJ hJo hY hj0 => by
  have hne := hid (show c1 ≠ c2 from holds_apart h1 h2 (by decide))
  have hC0 := hid (show CutAt W c1 c2 62 A p len cap n 32 0 A len cap from ⟨h1.below hW h1.lt, h2.below hW h2.lt, by omega, fun h => ⟨by rw [hA (by omega)]; congr 1; unfold Addr.add; split <;> simp_all, by omega⟩⟩)
  have hlt := hid (show c1 < W.heap.size ∧ c2 < W.heap.size from ⟨(h1.below hW h1.lt).lt, (h2.below hW h2.lt).lt⟩)
  have hXw := hid (fun k hx => Nat.lt_of_lt_of_le (hX k hx) hW.size)
  have hYy := hid hY
  have hJj := hid hJ
  have hJo' := hid hJo
  have hj0' := hid hj0
  have hn1' := hid hn1
  clear h1 h2 hA hX hY hJ hJo hj0 hW
  refine callsIn_of_wp Try.func66 rfl trivial ?_ rfl
  simp only [Try.ntmps66, List.size_toArray, List.length_cons, List.length_nil, Nat.reduceAdd, Nat.reduceSub, Array.replicate_succ, Array.replicate_zero, List.push_toArray, List.append_toArray, List.nil_append, List.cons_append]
  gi_wp2_with fail
  gi_loopw [] (fun wr => ∃ (i : Nat) (o : Nat → Prop) (A' : Option Addr) (l' c' : Nat), CutAt wr c1 c2 62 A p len cap n 32 i A' l' c' ∧ J (List.range i) o wr ∧ i ≤ cutN n len ∧ W.heap.size ≤ wr.heap.size) (fun wr => cutL c1 wr)
  case atStart => exact ⟨0, _, A, len, cap, hC0.out, hj0'.out, Nat.zero_le _, Nat.le_refl _⟩
  case round =>
    obtain ⟨i, o, A', l', c', hC, hj, hi, hsz⟩ := hrel
    obtain ⟨Wa, rfl⟩ : ∃ V, V = wr := ⟨_, rfl⟩
    have hCa := hid hC
    have hja := hid hj
    have hza := hid hsz
    have cc1 := hC.ls.cO 0 _ rfl
    have cc2 := hC.num.cO 0 _ rfl
    have hl' := hid hC.ll
    have hms := hid (cutL_is hC.ls)
    clear hC hj hsz hC0 hj0'
    by_cases hil : i * n < len
    · obtain ⟨q, hq⟩ : ∃ q, i * n * 32 = q := ⟨_, rfl⟩
      obtain ⟨hA', rfl⟩ := hCa.out.at_ hil
      rw [hq] at hA'
      obtain rfl := hA'
      have hq' := hid hq
      have hpos : (0 : Int) < (l' : Int) := by have := hl'.out; omega
      have hic : i < cutN n len := (cutN_lt hn1).2 hil
      obtain ⟨sz, hs⟩ : ∃ s, min n l' = s := ⟨_, rfl⟩
      have hs1 : sz ≤ l' ∧ sz ≤ cap - i * n ∧ 1 ≤ sz ∧ l' ≤ cap - i * n := by have := hl'.out; omega
      have hsi : min (n : Int) (l' : Int) = (sz : Int) := by omega
      have hsw := IntWalk.i64_in (sz : Int) (by omega)
      obtain ⟨fn1, tmps1, assign1, body1, hy1, hR1⟩ : YieldAt Fence.wide m Try.prog l #[.slice (some (p.add q)) sz (cap - i * n)] Wa (fun e W' => e = .returned (.bool true) ∧ ∃ o', FreshP Wa o o' ∧ J (List.range i ++ [i]) o' W' ∧ KeepX (fun k => X k ∨ o k) Wa W') := by
        have := hYy.out (List.range i) i o Wa hja.out (by rw [List.length_range]; exact hic)
        rw [← hl'.out, hs, hq] at this
        exact this
      have b1 : (sz : Int) ≤ ((cap - i * n : Nat) : Int) := by omega
      have b2 : (sz : Int) ≤ (l' : Int) := by omega
      have b3 : (0 : Int) ≤ (sz : Int) := by omega
      have hne1 := hid (show i * n + sz = (i + 1) * n ∨ len ≤ (i + 1) * n from by
        rw [Nat.add_mul, Nat.one_mul]
        have := hl'.out
        omega)
      have hls := hid (show l' - sz = len - (i + 1) * n from by
        rw [Nat.add_mul, Nat.one_mul]
        have := hl'.out
        omega)
      clear hq
      gi_wp2_with fail
      refine hR1.mono ?_
      rintro e Wf ⟨rfl, o2, hF5, hJ5, hK5⟩
      have hoc : ∀ k, (X k ∨ o k) → k ≠ c1 ∧ k ≠ c2 := fun k hk => by
        rcases hk with h | h
        · exact ⟨fun e => x1 (e ▸ h), fun e => x2 (e ▸ h)⟩
        · have h1 := hJo'.out _ o Wa k hja.out h
          have h2 := hlt.out
          omega
      have hCf := hid (hCa.out.keep hK5 (fun h => (hoc c1 h).1 rfl) (fun h => (hoc c2 h).2 rfl))
      have hJf := hid hJ5
      have hzf := hid (Nat.le_trans hza.out hK5.1)
      clear hK5 hJ5 hF5 hy1 hR1 hCa hja hza cc1 cc2
      have cc1 := hCf.out.ls.cO 0 _ rfl
      have f1 := hCf.out.ls.frozen 0
      obtain ⟨Wg, hWg⟩ : ∃ V, Wf.setCell ⟨c1, 0, none⟩ (.slice (if cap - i * n = sz then some (p.add q) else some ((p.add q).add (sz * 32))) (l' - sz) (cap - i * n - sz)) = V := ⟨_, rfl⟩
      have hCg := hid (show CutAt Wg c1 c2 62 A p len cap n 32 (i + 1) (if cap - i * n = sz then some (p.add q) else some ((p.add q).add (sz * 32))) (l' - sz) (cap - i * n - sz) from ⟨slice_put hCf.out.ls hWg, by rw [← hWg]; exact hCf.out.num.far ⟨c1, 0, none⟩ (Ne.symm hne.out) _, hls.out, fun hlt3 => by
        have e1 : (i + 1) * n = i * n + n := by rw [Nat.add_mul, Nat.one_mul]
        have e2 := hl'.out
        have e3 : sz = n := by omega
        rw [if_neg (by omega), add_add, e3, e1, ← hq'.out, Nat.add_mul]
        exact ⟨by first | rfl | (rw [Nat.mul_one, Nat.mul_one]), by omega⟩⟩)
      have hJg := hid (hJj.out (List.range i ++ [i]) o2 Wf Wg (some c1) hJf.out (by rw [← hWg]; exact ⟨rfl, rfl, rfl, by simp [World.setCell], fun k _ hk => heap_setCell_other _ _ _ _ (fun e => hk (by rw [e]))⟩) (fun r e => .inr (Option.some.inj e).symm))
      have hzg := hid (show W.heap.size ≤ Wg.heap.size from by rw [← hWg, World.size_setCell]; exact hzf.out)
      have hmg := hid (cutL_is hCg.out.ls)
      have hWg' := hid hWg
      clear hWg
      gi_wp2_with fail
      go_roundw
      case rel => exact ⟨i + 1, o2, _, _, _, by rw [hWg'.out]; exact hCg.out, by rw [hWg'.out, List.range_succ]; exact hJg.out, hic, by rw [hWg'.out]; exact hzg.out⟩
      case measure => rw [hWg'.out, hmg.out, hms.out]; omega
    · have hpos : ¬ (0 : Int) < (l' : Int) := by have := hl'.out; omega
      have hic := hid (show i = cutN n len from by
        have := mt (cutN_lt (len := len) (i := i) hn1).1 hil
        omega)
      gi_wp2_with fail
      go_end0
      exact ⟨⟨_, rfl⟩, o, by rw [← hic.out]; exact hja.out⟩

end Go.Proofs.Ytpjfhbmegabafaa
