/- Layer 12, the program's side: cut, of bytes, whose caller may leave. -/
import Derived.Test.YtpjfhbmegabafaaKRangeOwnS
import Derived.Test.YtpjfhbmegabafaaKFtA
namespace Go.Proofs.Ytpjfhbmegabafaa
open Go.RowKit
attribute [local irreducible] Sha.compress Sha.blocks Sha.sha Sha.pad

set_option maxRecDepth 100000 in
set_option maxHeartbeats 1000000 in
theorem cutB_allS (m : Nat) (X : Nat → Prop) (c1 c2 : Nat) (A : Option Addr) (p : Addr) (len cap n : Nat) (hA : 0 < len → A = some p) (hn1 : 1 ≤ n) (hn2 : n ≤ 100000) (hl : len ≤ 100000000) (hlc : len ≤ cap) (hcc : cap ≤ 9223372036854775807) (x1 : ¬ X c1) (x2 : ¬ X c2) (w : World)
    (h1 : Holds w c1 51 [.slice A len cap]) (h2 : Holds w c2 3 [.int .i64 (n : Int)]) :
    SeqOwnS Fence.wide (m + 1) Try.prog 65 #[.pointer (some ⟨c1, 0, none⟩), .pointer (some ⟨c2, 0, none⟩)] (fun i : Nat => #[.slice (some (p.add (i * n * 1))) (min n (len - i * n)) (cap - i * n)]) (fun k => k = c1) (fun o => KeepX (fun k => X k ∨ o k)) (fun l => l = List.range (cutN n len)) (fun pre x => pre = List.range x ∧ x < cutN n len) w := fun l J Jx W hW hJ hJx hJo hY hj0 => by
  have hne := hid (show c1 ≠ c2 from holds_apart h1 h2 (by decide))
  have hC0 := hid (show CutAt W c1 c2 51 A p len cap n 1 0 A len cap from ⟨h1.below hW h1.lt, h2.below hW h2.lt, by omega, fun h => ⟨by rw [hA (by omega)]; congr 1; unfold Addr.add; split <;> simp_all, by omega⟩⟩)
  have hlt := hid (show c1 < W.heap.size ∧ c2 < W.heap.size from ⟨(h1.below hW h1.lt).lt, (h2.below hW h2.lt).lt⟩)
  have hYy := hid hY
  have hJj := hid hJ
  have hJo' := hid hJo
  have hj0' := hid hj0
  have hn1' := hid hn1
  clear h1 h2 hA hY hJ hJo hj0 hW hJx
  refine callsIn_of_wp Try.func65 rfl trivial ?_ rfl
  simp only [Try.ntmps65, List.size_toArray, List.length_cons, List.length_nil, Nat.reduceAdd, Nat.reduceSub, Array.replicate_succ, Array.replicate_zero, List.push_toArray, List.append_toArray, List.nil_append, List.cons_append]
  gi_wp2_with fail
  gi_loopw [] (fun wr => ∃ (i : Nat) (o : Nat → Prop) (A' : Option Addr) (l' c' : Nat), CutAt wr c1 c2 51 A p len cap n 1 i A' l' c' ∧ J (List.range i) o wr ∧ i ≤ cutN n len ∧ W.heap.size ≤ wr.heap.size) (fun wr => cutL c1 wr)
  case atStart => exact ⟨0, _, A, len, cap, hC0.out, hj0'.out, Nat.zero_le _, Nat.le_refl _⟩
  case round =>
    obtain ⟨i, o, A', l', c', hC, hj, hi, hsz⟩ := hrel
    obtain ⟨Wa, rfl⟩ : ∃ V, V = wr := ⟨_, rfl⟩
    have hCa := hid hC
    have hja := hid hj
    have hza := hid hsz
    have cc1 := hC.ls.cO 0 _ rfl
    have cc2 := hC.num.cO 0 _ rfl
    have hl' := hid hC.ll
    have hms := hid (cutL_is hC.ls)
    clear hC hj hsz hC0 hj0'
    by_cases hil : i * n < len
    · obtain ⟨q, hq⟩ : ∃ q, i * n * 1 = q := ⟨_, rfl⟩
      obtain ⟨hA', rfl⟩ := hCa.out.at_ hil
      rw [hq] at hA'
      obtain rfl := hA'
      have hq' := hid hq
      have hpos : (0 : Int) < (l' : Int) := by have := hl'.out; omega
      have hic : i < cutN n len := (cutN_lt hn1).2 hil
      obtain ⟨sz, hs⟩ : ∃ s, min n l' = s := ⟨_, rfl⟩
      have hs1 : sz ≤ l' ∧ sz ≤ cap - i * n ∧ 1 ≤ sz ∧ l' ≤ cap - i * n := by have := hl'.out; omega
      have hsi : min (n : Int) (l' : Int) = (sz : Int) := by omega
      have hsw := IntWalk.i64_in (sz : Int) (by omega)
      obtain ⟨fn1, tmps1, assign1, body1, hy1, hR1⟩ : YieldAt Fence.wide m Try.prog l #[.slice (some (p.add q)) sz (cap - i * n)] Wa (fun e W' => (e = .returned (.bool true) ∧ ∃ o', FreshP Wa o o' ∧ J (List.range i ++ [i]) o' W' ∧ KeepX (fun k => X k ∨ o k) Wa W' ∧ KeepsO W.heap.size o Wa W') ∨ (e = .returned (.bool false) ∧ Jx W' ∧ KeepsO W.heap.size o Wa W')) := by
        have := hYy.out (List.range i) i o Wa hja.out ⟨rfl, hic⟩
        rw [← hl'.out, hs, hq] at this
        exact this
      have b1 : (sz : Int) ≤ ((cap - i * n : Nat) : Int) := by omega
      have b2 : (sz : Int) ≤ (l' : Int) := by omega
      have b3 : (0 : Int) ≤ (sz : Int) := by omega
      have hne1 := hid (show i * n + sz = (i + 1) * n ∨ len ≤ (i + 1) * n from by
        rw [Nat.add_mul, Nat.one_mul]
        have := hl'.out
        omega)
      have hls := hid (show l' - sz = len - (i + 1) * n from by
        rw [Nat.add_mul, Nat.one_mul]
        have := hl'.out
        omega)
      clear hq
      gi_wp2_with fail
      refine hR1.mono ?_
      rintro e Wf (⟨rfl, o2, hF5, hJ5, hK5, -⟩ | ⟨rfl, hx5, -⟩)
      · skip
        have hoc : ∀ k, (X k ∨ o k) → k ≠ c1 ∧ k ≠ c2 := fun k hk => by
          rcases hk with h | h
          · exact ⟨fun e => x1 (e ▸ h), fun e => x2 (e ▸ h)⟩
          · have h1 := (hJo'.out _ o Wa k hja.out h).1
            have h2 := hlt.out
            omega
        have hCf := hid (hCa.out.keep hK5 (fun h => (hoc c1 h).1 rfl) (fun h => (hoc c2 h).2 rfl))
        have hJf := hid hJ5
        have hzf := hid (Nat.le_trans hza.out hK5.1)
        clear hK5 hJ5 hF5 hy1 hR1 hCa hja hza cc1 cc2
        have cc1 := hCf.out.ls.cO 0 _ rfl
        have f1 := hCf.out.ls.frozen 0
        obtain ⟨Wg, hWg⟩ : ∃ V, Wf.setCell ⟨c1, 0, none⟩ (.slice (if cap - i * n = sz then some (p.add q) else some ((p.add q).add sz)) (l' - sz) (cap - i * n - sz)) = V := ⟨_, rfl⟩
        have hCg := hid (show CutAt Wg c1 c2 51 A p len cap n 1 (i + 1) (if cap - i * n = sz then some (p.add q) else some ((p.add q).add sz)) (l' - sz) (cap - i * n - sz) from ⟨slice_put hCf.out.ls hWg, by rw [← hWg]; exact hCf.out.num.far ⟨c1, 0, none⟩ (Ne.symm hne.out) _, hls.out, fun hlt3 => by
          have e1 : (i + 1) * n = i * n + n := by rw [Nat.add_mul, Nat.one_mul]
          have e2 := hl'.out
          have e3 : sz = n := by omega
          rw [if_neg (by omega), add_add, e3, e1, ← hq'.out, Nat.add_mul]
          exact ⟨by first | rfl | (rw [Nat.mul_one, Nat.mul_one]), by omega⟩⟩)
        have hJg := hid (hJj.out (List.range i ++ [i]) o2 Wf Wg (some c1) hJf.out (by rw [← hWg]; exact ⟨rfl, rfl, rfl, by simp [World.setCell], fun k _ hk => heap_setCell_other _ _ _ _ (fun e => hk (by rw [e]))⟩) (fun r e => .inr (Option.some.inj e).symm))
        have hzg := hid (show W.heap.size ≤ Wg.heap.size from by rw [← hWg, World.size_setCell]; exact hzf.out)
        have hmg := hid (cutL_is hCg.out.ls)
        have hWg' := hid hWg
        clear hWg
        gi_wp2_with fail
        go_roundw
        case rel => exact ⟨i + 1, o2, _, _, _, by rw [hWg'.out]; exact hCg.out, by rw [hWg'.out, List.range_succ]; exact hJg.out, hic, by rw [hWg'.out]; exact hzg.out⟩
        case measure => rw [hWg'.out, hmg.out, hms.out]; omega
      · gi_wp2
        refine bodyPost_ret (results_none rfl _ _ _) rfl ?_
        exact ⟨⟨_, rfl⟩, .inr hx5⟩
    · have hpos : ¬ (0 : Int) < (l' : Int) := by have := hl'.out; omega
      have hic := hid (show i = cutN n len from by
        have := mt (cutN_lt (len := len) (i := i) hn1).1 hil
        omega)
      gi_wp2_with fail
      go_end0
      exact ⟨⟨_, rfl⟩, .inl ⟨o, by rw [← hic.out]; exact hja.out⟩⟩


end Go.Proofs.Ytpjfhbmegabafaa
