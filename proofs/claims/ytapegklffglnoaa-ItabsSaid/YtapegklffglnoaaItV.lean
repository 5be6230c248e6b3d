/- Layer 14: the reference's GetItab, of texts that fit. -/
import Derived.Test.YtapegklffglnoaaItN
import Derived.Test.YtapegklffglnoaaItK
namespace Go.Proofs.Ytapegklffglnoaa
open Go.RowKit
open Go.Lib (strCells strCells_length strCells_oneCell)

theorem recs_length (s : ByteArray) : ∀ (m p : Nat), (recs s p m).length = m
  | 0, _ => rfl
  | m + 1, p => by rw [recs, List.length_cons, recs_length s m (p + 38)]
theorem recs_fine (s : ByteArray) : ∀ (m p : Nat), p + 38 * m ≤ s.size → ∀ r ∈ recs s p m, r.fine
  | 0, _, _ => fun r hr => (by cases hr)
  | m + 1, p, h => fun r hr => by
    rcases List.mem_cons.1 hr with rfl | hr
    · show (s.extract (p + 6) (p + 38)).size = 32
      rw [ByteArray.size_extract]
      omega
    · exact recs_fine s m (p + 38) (by omega) r hr

/-- A hash in a variable of its own. -/
theorem hash_var (w : World) (H : Array Value) (hH : H.size = 32) :
    ∃ V, (w.alloc (.cells z32 76)).setCells w.heap.size 0 H.toList = V ∧ Holds V w.heap.size 76 H.toList ∧ Below w.heap.size w V ∧ (w.alloc (.cells z32 76)).there w.heap.size 0 H.size := by
  have h0 := Holds.new w 76 z32
  have hl : z32.toList.length = 32 := by kernel_rfl
  refine ⟨_, rfl, ?_, below_setCells ((Below.refl _ _).alloc (Nat.le_refl _) _) _ _ _ (Nat.le_refl _), h0.there 0 _ (by rw [hl, hH]; decide)⟩
  have h1 := h0.put 0 H.toList (by rw [hl]; simp [hH])
  rwa [put_all _ _ (by rw [hl]; simp [hH])] at h1

theorem readHash_at (s : ByteArray) (p : Nat) (h : p + 32 ≤ s.size) : readHash (s.extract p s.size) = (s.extract p (p + 32), 0, s.extract (p + 32) s.size) := by
  have hz : (s.extract p s.size).size = s.size - p := by rw [ByteArray.size_extract]; omega
  unfold readHash
  rw [if_neg (by rw [hz]; omega), extract_more s p 32 h, extract_twice s p 32 h]

theorem heap_lt (w : World) (o : Obj) : w.heap.size < (w.alloc o).heap.size := by simp

theorem wp_buildOne {P : Program} {o : Oper} {a : Act} {w : World} {K : Act → World → Prop} {Q : Exit → Act → World → Prop} (t e : TypeId) (x : Operand) (ho : o.op = .buildSlice t 1 #[(0, x)]) (i : TypeInfo) (z : Value) (ht : P.underlying t = some (.slice e)) (hi : P.info? e = some i) (hz : i.zero = some z)
    (H : Array Value) (hx : a.eval x = .agg H) (hn : i.size = H.size) (h0 : 0 < H.size) (h1 : H.size ≤ 1000000) (h : K (a.put o.dst (.slice (some ⟨w.heap.size, 0, none⟩) 1 1)) (w.alloc (.cells H e))) : o.wp P a w K Q :=
  wp_run' _ _ (by
    unfold execOp
    simp only [ho, List.map_toArray, List.map_cons, List.map_nil, hx]
    simp [run_buildSlice_one (w := w) t e i z ht hi hz H hn h0 h1]) h

set_option maxRecDepth 100000 in
set_option maxHeartbeats 8000000 in
theorem refGet_ok {s : ByteArray} (h : headOk s) (hS : s.size ≤ 140737488351232) (R : List Ino) (x : Int) (hs : getS s = (R, x)) (w : World) : Calls Try.prog 42 #[.string s] w (GetPost R x w) := by
  obtain ⟨hih0, hhi, hhz, hhs, hhb⟩ := info_parts Try.infoHashI
  obtain ⟨ih7, hi7, hz7, hs7, hb7⟩ := info_parts Try.infoInoI
  rw [getS_ok h] at hs
  obtain ⟨hz, hb0, hsz⟩ := h
  have hz0 : 0 < s.size := by omega
  have hz1 : 1 < s.size := by omega
  have hzi : (1 : Int) < (s.size : Int) := by omega
  have h2' : ¬ (s.size : Int) < 2 := by omega
  rw [getElem?_pos s 0 hz0] at hb0
  rw [getElem?_pos s 1 hz1] at hsz hs
  obtain ⟨n1, hn1⟩ : ∃ n1, (s[1]'hz1).toNat = n1 := ⟨_, rfl⟩
  have hn256 : n1 < 256 := by rw [← hn1]; exact (s[1]'hz1).toNat_lt
  replace hsz : s.size = 2 + 38 * n1 := by rw [← hn1]; exact hsz
  replace hs : (if itabB (recs s 2 n1) then (recs s 2 n1, (0 : Int)) else ([], 1400)) = (R, x) := by rw [← hn1]; exact hs
  have hb84 : ((s[0]'hz0).toNat : Int) = 84 := by rw [Option.some.inj hb0]; rfl
  have w1 := IntWalk.i64_in (n1 : Int) (by omega)
  have w2 := IntWalk.i64_in (38 * (n1 : Int)) (by omega)
  have w3 := IntWalk.i64_in (2 + 38 * (n1 : Int)) (by omega)
  have h3' : ((s.size : Int) != 2 + 38 * (n1 : Int)) = false := by
    have e : (s.size : Int) = 2 + 38 * (n1 : Int) := by omega
    simpa using e
  have hsz' := hid hsz
  have hs' := hid hs
  have hS' := hid hS
  clear hb0 hsz hs hS
  go_enter Try.func42, Try.ntmps42
  go_wp2_with fail
  go_loopw [4, 5] (fun o i wr => ∃ (k : Nat) (A : Option Addr) (c : Nat), k ≤ n1 ∧ i = .int .i64 (k : Int) ∧ o = .slice A k c ∧ Below w.heap.size w wr ∧ wr.ownsRow w.heap.size 78 37 (.slice A k c) k (inoCells (recs s 2 k))) (fun _ i _ => n1 - (intOf i).toNat)
  case atStart => exact ⟨0, none, 0, Nat.zero_le _, rfl, rfl, Below.refl _ _, World.ownsRow_nil _ _ _ _⟩
  case round =>
    obtain ⟨k, A, c, hk, rfl, rfl, hBr, hown⟩ := hrel
    have hBr' := hid hBr
    have hown' := hid hown
    clear hBr hown
    by_cases hlt : k < n1
    · have hlt' : (k : Int) < (n1 : Int) := by omega
      obtain ⟨P, hP⟩ : ∃ P, 2 + 38 * k = P := ⟨_, rfl⟩
      have hPi : 2 + 38 * (k : Int) = (P : Int) := by omega
      have hP38 : P + 38 ≤ s.size := by rw [hsz'.out]; omega
      have hs48 : s.size ≤ 140737488351232 := hS'.out
      have v1 := IntWalk.i64_in (38 * (k : Int)) (by omega)
      have v2 := IntWalk.i64_in (P : Int) (by omega)
      have v6 := IntWalk.i64_in ((P : Int) + 6) (by omega)
      have hkw := IntWalk.i64_in ((k : Int) + 1) (by omega)
      obtain ⟨g, hg⟩ : ∃ g, wr.heap.size = g := ⟨_, rfl⟩
      obtain ⟨W1, hW1⟩ : ∃ W1, wr.alloc (.cells #[.string s, .int .i64 ((P : Int) + 6)] 102) = W1 := ⟨_, rfl⟩
      have hRR : RR W1 g s (P + 6) := by
        rw [← hW1, ← hg]
        exact Holds.new wr _ _
      have hbW1 : Below wr.heap.size wr W1 := by rw [← hW1]; exact (Below.refl _ _).alloc (Nat.le_refl _) _
      have hcall0 := refRHash_any g s (P + 6) (by omega) hs48 W1 hRR _ rfl _ _ _ (readHash_at s (P + 6) (by omega))
      obtain ⟨Hc, hHc⟩ : ∃ Hc, (strCells (s.extract (P + 6) (P + 6 + 32))).toArray = Hc := ⟨_, rfl⟩
      rw [hHc] at hcall0
      have hcall := hid hcall0
      have hHc' := hid hHc
      have hW1' := hid hW1
      have hg' := hid hg
      have hbW1' := hid hbW1
      have hP38' := hid hP38
      have hPn := hid hP
      clear hRR hbW1 hW1 hP hcall0 hHc
      go_wp2_with fail
      rw [hW1'.out]
      refine hcall.out.mono ?_
      rintro e W2 ⟨rfl, p', -, -, -, hgr⟩
      have hHc := hHc'.out
      have hHs : Hc.size = 32 := by rw [← hHc, List.size_toArray, strCells_length, ByteArray.size_extract]; omega
      have hall : Hc.all (·.oneCell') = true := by
        rw [← hHc, Array.all_eq_true_iff_forall_mem]
        intro v hv
        exact Go.Lib.strCells_oneCell _ v (by simpa using hv)
      have hiS : (Try.prog.info? 76).map (·.size) = some Hc.size := by rw [hHs]; exact Try.infoHash
      have hiH : (Try.prog.info? 76).map (·.size) = some Hc.toList.length := by rw [Array.length_toList]; exact hiS
      have hb2 : Below wr.heap.size wr W2 := below_of_only hbW1'.out hgr (by rw [hg'.out]; exact Nat.le_refl _) hbW1'.out.size
      obtain ⟨V, hV, hVH, hVB, hVt⟩ := hash_var W2 Hc hHs
      have hbV := hid (hb2.trans (hVB.mono hb2.size))
      have hqg := hid (show wr.heap.size ≤ W2.heap.size from hb2.size)
      have hVd := hVH.drew
      have hV' := hid hV
      have hVt' := hid hVt
      have hbVd := hid (hBr'.out.trans (hbV.out.drew.mono hBr'.out.size))
      have hownV := hid (own_keep hown'.out hbV.out.drew)
      obtain ⟨d0, hd0⟩ : ∃ d, s[P]'(by omega) = d := ⟨_, rfl⟩
      obtain ⟨d1, hd1⟩ : ∃ d, s[P + 1]'(by omega) = d := ⟨_, rfl⟩
      obtain ⟨d2, hd2⟩ : ∃ d, s[P + 2]'(by omega) = d := ⟨_, rfl⟩
      obtain ⟨d3, hd3⟩ : ∃ d, s[P + 3]'(by omega) = d := ⟨_, rfl⟩
      obtain ⟨d4, hd4⟩ : ∃ d, s[P + 4]'(by omega) = d := ⟨_, rfl⟩
      obtain ⟨d5, hd5⟩ : ∃ d, s[P + 5]'(by omega) = d := ⟨_, rfl⟩
      have hbuild := hid (show (recAt s P).cells.toArray = #[Value.int .i64 (d0.toNat : Int), .int .i64 (d1.toNat : Int), .int .i64 (d2.toNat : Int), .int .i64 (d3.toNat : Int), .int .i64 ((d4.toNat : Int) * 256 + (d5.toNat : Int))] ++ Hc from by
        rw [← hd0, ← hd1, ← hd2, ← hd3, ← hd4, ← hd5, ← hHc]
        unfold recAt Ino.cells
        rw [getElem?_pos s P (by omega), getElem?_pos s (P + 1) (by omega), getElem?_pos s (P + 2) (by omega), getElem?_pos s (P + 3) (by omega), getElem?_pos s (P + 4) (by omega), getElem?_pos s (P + 5) (by omega)]
        simp)
      have hfr : (recAt s P).fine := by show (s.extract (P + 6) (P + 38)).size = 32; rw [ByteArray.size_extract]; omega
      have hrec := hid (show recs s 2 (k + 1) = recs s 2 k ++ [recAt s P] from by rw [recs_next, ← hPn.out])
      have hfr' := hid hfr
      have hHs' := hid hHs
      have u0 := IntWalk.i64_in (d0.toNat : Int) (by have := d0.toNat_lt; omega)
      have u1 := IntWalk.i64_in (d1.toNat : Int) (by have := d1.toNat_lt; omega)
      have x1 := IntWalk.i64_in ((P : Int) + 1) (by omega)
      have y1 : ((P : Int) + 1).toNat = P + 1 := by omega
      have l1 : (P : Int) + 1 < (s.size : Int) := by omega
      have m1 : (0 : Int) ≤ (P : Int) + 1 := by omega
      have u2 := IntWalk.i64_in (d2.toNat : Int) (by have := d2.toNat_lt; omega)
      have x2 := IntWalk.i64_in ((P : Int) + 2) (by omega)
      have y2 : ((P : Int) + 2).toNat = P + 2 := by omega
      have l2 : (P : Int) + 2 < (s.size : Int) := by omega
      have m2 : (0 : Int) ≤ (P : Int) + 2 := by omega
      have u3 := IntWalk.i64_in (d3.toNat : Int) (by have := d3.toNat_lt; omega)
      have x3 := IntWalk.i64_in ((P : Int) + 3) (by omega)
      have y3 : ((P : Int) + 3).toNat = P + 3 := by omega
      have l3 : (P : Int) + 3 < (s.size : Int) := by omega
      have m3 : (0 : Int) ≤ (P : Int) + 3 := by omega
      have u4 := IntWalk.i64_in (d4.toNat : Int) (by have := d4.toNat_lt; omega)
      have x4 := IntWalk.i64_in ((P : Int) + 4) (by omega)
      have y4 : ((P : Int) + 4).toNat = P + 4 := by omega
      have l4 : (P : Int) + 4 < (s.size : Int) := by omega
      have m4 : (0 : Int) ≤ (P : Int) + 4 := by omega
      have u5 := IntWalk.i64_in (d5.toNat : Int) (by have := d5.toNat_lt; omega)
      have x5 := IntWalk.i64_in ((P : Int) + 5) (by omega)
      have y5 : ((P : Int) + 5).toNat = P + 5 := by omega
      have l5 : (P : Int) + 5 < (s.size : Int) := by omega
      have m5 : (0 : Int) ≤ (P : Int) + 5 := by omega
      have l0 : (P : Int) < (s.size : Int) := by omega
      have l0' : P < s.size := by omega
      have hor := or_low (d4.toNat : Int) d5 (by omega) (by have := d4.toNat_lt; omega)
      have hshl := IntWalk.i64_in ((d4.toNat : Int) * 256) (by have := d4.toNat_lt; omega)
      clear hgr hb2 hV hVt hVH hVB hHc hfr
      rename_i hK1
      refine hK1 _ _ ?_
      go_wp2_with (first
        | ((with_reducible refine at_slot (some 8) ?_); refine wpList_alloc_row rfl 76 rfl hih0 _ hhi hhz z32 rfl ?_)
        | ((with_reducible refine at_slot none ?_); refine wpList_store_mid rfl 76 (.tmp 8) (.tmp 46) rfl W2.heap.size 0 Hc rfl rfl (by exact hVt'.out) (by exact hiS) (by exact hall) ?_; rw [hV'.out])
        | fail)
      refine wp_region_held_drew (S := fun W => Holds W W2.heap.size 76 Hc.toList) (by kernel_rfl) (by exact hVd) (fun hHeld => ?_)
      refine wpAnyH_take (i := 0) (v := .slice A k c) rfl (by kernel_rfl) (by kernel_rfl) (by kernel_rfl) (fun _ _ _ h => h) (yieldsIf_move _ rfl rfl rfl) hHeld ?_
      simp only [ly1, ly2, ly3, Act.put, ly5, ly6, ly7]
      refine wpAnyH_take (i := 1) (v := .string s) rfl (by kernel_rfl) (by kernel_rfl) (by kernel_rfl) (fun _ _ _ h => h) (yieldsIf_move _ rfl rfl rfl) hHeld ?_
      simp only [ly1, ly2, ly3, Act.put, ly5, ly6, ly7]
      refine wpAnyH_take (i := 2) (v := .int .i64 (P : Int)) rfl (by kernel_rfl) (by kernel_rfl) (by kernel_rfl) (fun _ _ _ h => h) (yieldsIf_move _ rfl rfl rfl) hHeld ?_
      simp only [ly1, ly2, ly3, Act.put, ly5, ly6, ly7]
      refine wpAnyH_take (i := 3) (v := .int .u8 (d0.toNat : Int)) rfl (by kernel_rfl) (by kernel_rfl) (by kernel_rfl) (fun _ _ _ h => h) (.inl ⟨by kernel_rfl, fun w _ => by go_simp⟩) hHeld ?_
      simp only [ly1, ly2, ly3, Act.put, ly5, ly6, ly7]
      refine wpAnyH_take (i := 4) (v := .int .i64 (d0.toNat : Int)) rfl (by kernel_rfl) (by kernel_rfl) (by kernel_rfl) (fun _ _ _ h => h) (.inl ⟨by kernel_rfl, fun w _ => by go_simp⟩) hHeld ?_
      simp only [ly1, ly2, ly3, Act.put, ly5, ly6, ly7]
      refine wpAnyH_take (i := 5) (v := .string s) rfl (by kernel_rfl) (by kernel_rfl) (by kernel_rfl) (fun _ _ _ h => h) (yieldsIf_move _ rfl rfl rfl) hHeld ?_
      simp only [ly1, ly2, ly3, Act.put, ly5, ly6, ly7]
      refine wpAnyH_take (i := 6) (v := .int .i64 (P : Int)) rfl (by kernel_rfl) (by kernel_rfl) (by kernel_rfl) (fun _ _ _ h => h) (yieldsIf_move _ rfl rfl rfl) hHeld ?_
      simp only [ly1, ly2, ly3, Act.put, ly5, ly6, ly7]
      refine wpAnyH_take (i := 7) (v := .int .i64 ((P : Int) + 1)) rfl (by kernel_rfl) (by kernel_rfl) (by kernel_rfl) (fun _ _ _ h => h) (.inl ⟨by kernel_rfl, fun w _ => by go_simp⟩) hHeld ?_
      simp only [ly1, ly2, ly3, Act.put, ly5, ly6, ly7]
      refine wpAnyH_take (i := 8) (v := .int .u8 (d1.toNat : Int)) rfl (by kernel_rfl) (by kernel_rfl) (by kernel_rfl) (fun _ _ _ h => h) (.inl ⟨by kernel_rfl, fun w _ => by go_simp⟩) hHeld ?_
      simp only [ly1, ly2, ly3, Act.put, ly5, ly6, ly7]
      refine wpAnyH_take (i := 9) (v := .int .i64 (d1.toNat : Int)) rfl (by kernel_rfl) (by kernel_rfl) (by kernel_rfl) (fun _ _ _ h => h) (.inl ⟨by kernel_rfl, fun w _ => by go_simp⟩) hHeld ?_
      simp only [ly1, ly2, ly3, Act.put, ly5, ly6, ly7]
      refine wpAnyH_take (i := 10) (v := .string s) rfl (by kernel_rfl) (by kernel_rfl) (by kernel_rfl) (fun _ _ _ h => h) (yieldsIf_move _ rfl rfl rfl) hHeld ?_
      simp only [ly1, ly2, ly3, Act.put, ly5, ly6, ly7]
      refine wpAnyH_take (i := 11) (v := .int .i64 (P : Int)) rfl (by kernel_rfl) (by kernel_rfl) (by kernel_rfl) (fun _ _ _ h => h) (yieldsIf_move _ rfl rfl rfl) hHeld ?_
      simp only [ly1, ly2, ly3, Act.put, ly5, ly6, ly7]
      refine wpAnyH_take (i := 12) (v := .int .i64 ((P : Int) + 2)) rfl (by kernel_rfl) (by kernel_rfl) (by kernel_rfl) (fun _ _ _ h => h) (.inl ⟨by kernel_rfl, fun w _ => by go_simp⟩) hHeld ?_
      simp only [ly1, ly2, ly3, Act.put, ly5, ly6, ly7]
      refine wpAnyH_take (i := 13) (v := .int .u8 (d2.toNat : Int)) rfl (by kernel_rfl) (by kernel_rfl) (by kernel_rfl) (fun _ _ _ h => h) (.inl ⟨by kernel_rfl, fun w _ => by go_simp⟩) hHeld ?_
      simp only [ly1, ly2, ly3, Act.put, ly5, ly6, ly7]
      refine wpAnyH_take (i := 14) (v := .int .i64 (d2.toNat : Int)) rfl (by kernel_rfl) (by kernel_rfl) (by kernel_rfl) (fun _ _ _ h => h) (.inl ⟨by kernel_rfl, fun w _ => by go_simp⟩) hHeld ?_
      simp only [ly1, ly2, ly3, Act.put, ly5, ly6, ly7]
      refine wpAnyH_take (i := 15) (v := .string s) rfl (by kernel_rfl) (by kernel_rfl) (by kernel_rfl) (fun _ _ _ h => h) (yieldsIf_move _ rfl rfl rfl) hHeld ?_
      simp only [ly1, ly2, ly3, Act.put, ly5, ly6, ly7]
      refine wpAnyH_take (i := 16) (v := .int .i64 (P : Int)) rfl (by kernel_rfl) (by kernel_rfl) (by kernel_rfl) (fun _ _ _ h => h) (yieldsIf_move _ rfl rfl rfl) hHeld ?_
      simp only [ly1, ly2, ly3, Act.put, ly5, ly6, ly7]
      refine wpAnyH_take (i := 17) (v := .int .i64 ((P : Int) + 3)) rfl (by kernel_rfl) (by kernel_rfl) (by kernel_rfl) (fun _ _ _ h => h) (.inl ⟨by kernel_rfl, fun w _ => by go_simp⟩) hHeld ?_
      simp only [ly1, ly2, ly3, Act.put, ly5, ly6, ly7]
      refine wpAnyH_take (i := 18) (v := .int .u8 (d3.toNat : Int)) rfl (by kernel_rfl) (by kernel_rfl) (by kernel_rfl) (fun _ _ _ h => h) (.inl ⟨by kernel_rfl, fun w _ => by go_simp⟩) hHeld ?_
      simp only [ly1, ly2, ly3, Act.put, ly5, ly6, ly7]
      refine wpAnyH_take (i := 19) (v := .int .i64 (d3.toNat : Int)) rfl (by kernel_rfl) (by kernel_rfl) (by kernel_rfl) (fun _ _ _ h => h) (.inl ⟨by kernel_rfl, fun w _ => by go_simp⟩) hHeld ?_
      simp only [ly1, ly2, ly3, Act.put, ly5, ly6, ly7]
      refine wpAnyH_take (i := 20) (v := .string s) rfl (by kernel_rfl) (by kernel_rfl) (by kernel_rfl) (fun _ _ _ h => h) (yieldsIf_move _ rfl rfl rfl) hHeld ?_
      simp only [ly1, ly2, ly3, Act.put, ly5, ly6, ly7]
      refine wpAnyH_take (i := 21) (v := .int .i64 (P : Int)) rfl (by kernel_rfl) (by kernel_rfl) (by kernel_rfl) (fun _ _ _ h => h) (yieldsIf_move _ rfl rfl rfl) hHeld ?_
      simp only [ly1, ly2, ly3, Act.put, ly5, ly6, ly7]
      refine wpAnyH_take (i := 22) (v := .int .i64 ((P : Int) + 4)) rfl (by kernel_rfl) (by kernel_rfl) (by kernel_rfl) (fun _ _ _ h => h) (.inl ⟨by kernel_rfl, fun w _ => by go_simp⟩) hHeld ?_
      simp only [ly1, ly2, ly3, Act.put, ly5, ly6, ly7]
      refine wpAnyH_take (i := 23) (v := .int .u8 (d4.toNat : Int)) rfl (by kernel_rfl) (by kernel_rfl) (by kernel_rfl) (fun _ _ _ h => h) (.inl ⟨by kernel_rfl, fun w _ => by go_simp⟩) hHeld ?_
      simp only [ly1, ly2, ly3, Act.put, ly5, ly6, ly7]
      refine wpAnyH_take (i := 24) (v := .int .i64 (d4.toNat : Int)) rfl (by kernel_rfl) (by kernel_rfl) (by kernel_rfl) (fun _ _ _ h => h) (.inl ⟨by kernel_rfl, fun w _ => by go_simp⟩) hHeld ?_
      simp only [ly1, ly2, ly3, Act.put, ly5, ly6, ly7]
      refine wpAnyH_take (i := 25) (v := .int .i64 ((d4.toNat : Int) * 256)) rfl (by kernel_rfl) (by kernel_rfl) (by kernel_rfl) (fun _ _ _ h => h) (.inl ⟨by kernel_rfl, fun w _ => by go_simp⟩) hHeld ?_
      simp only [ly1, ly2, ly3, Act.put, ly5, ly6, ly7]
      refine wpAnyH_take (i := 26) (v := .string s) rfl (by kernel_rfl) (by kernel_rfl) (by kernel_rfl) (fun _ _ _ h => h) (yieldsIf_move _ rfl rfl rfl) hHeld ?_
      simp only [ly1, ly2, ly3, Act.put, ly5, ly6, ly7]
      refine wpAnyH_take (i := 27) (v := .int .i64 (P : Int)) rfl (by kernel_rfl) (by kernel_rfl) (by kernel_rfl) (fun _ _ _ h => h) (yieldsIf_move _ rfl rfl rfl) hHeld ?_
      simp only [ly1, ly2, ly3, Act.put, ly5, ly6, ly7]
      refine wpAnyH_take (i := 28) (v := .int .i64 ((P : Int) + 5)) rfl (by kernel_rfl) (by kernel_rfl) (by kernel_rfl) (fun _ _ _ h => h) (.inl ⟨by kernel_rfl, fun w _ => by go_simp⟩) hHeld ?_
      simp only [ly1, ly2, ly3, Act.put, ly5, ly6, ly7]
      refine wpAnyH_take (i := 29) (v := .int .u8 (d5.toNat : Int)) rfl (by kernel_rfl) (by kernel_rfl) (by kernel_rfl) (fun _ _ _ h => h) (.inl ⟨by kernel_rfl, fun w _ => by go_simp⟩) hHeld ?_
      simp only [ly1, ly2, ly3, Act.put, ly5, ly6, ly7]
      refine wpAnyH_take (i := 30) (v := .int .i64 (d5.toNat : Int)) rfl (by kernel_rfl) (by kernel_rfl) (by kernel_rfl) (fun _ _ _ h => h) (.inl ⟨by kernel_rfl, fun w _ => by go_simp⟩) hHeld ?_
      simp only [ly1, ly2, ly3, Act.put, ly5, ly6, ly7]
      refine wpAnyH_take (i := 31) (v := .int .i64 ((d4.toNat : Int) * 256 + (d5.toNat : Int))) rfl (by kernel_rfl) (by kernel_rfl) (by kernel_rfl) (fun _ _ _ h => h) (.inl ⟨by kernel_rfl, fun w _ => by go_simp; omega⟩) hHeld ?_
      simp only [ly1, ly2, ly3, Act.put, ly5, ly6, ly7]
      refine wpAnyH_take (i := 32) (v := .agg Hc) rfl (by kernel_rfl) (by kernel_rfl) (by kernel_rfl) (fun _ _ _ h => h) (yieldsIf_load_any (by kernel_rfl) _ _ rfl ⟨W2.heap.size, 0, none⟩ rfl Hc.toList _ (fun w hw j v hv => by rw [show (⟨W2.heap.size, 0, none⟩ : Addr).add j = ⟨W2.heap.size, j, none⟩ from by unfold Addr.add; split <;> simp_all]; exact (Holds.cell hw j).trans hv) Try.underlying76 rfl hiH) hHeld ?_
      simp only [ly1, ly2, ly3, Act.put, ly5, ly6, ly7]
      refine wpAnyH_take (i := 33) (v := .agg (recAt s P).cells.toArray) rfl (by kernel_rfl) (by kernel_rfl) (by kernel_rfl) (fun _ _ _ h => h) (.inl ⟨by kernel_rfl, fun w _ => by rw [hbuild.out]; have hys := hHs'.out; go_simp; rw [place_at _ _ _ _ hys (by simp)]; simp [put, hys]⟩) hHeld ?_
      simp only [ly1, ly2, ly3, Act.put, ly5, ly6, ly7]
      refine wpAnyH_ready (rs := [34]) (by kernel_rfl) (by simp) (AllReadyH.cons rfl (fun K hK => ?_) AllReadyH.nil)
      have hK' := hid hK
      clear hK
      rw [if_pos (by kernel_rfl)]
      simp only [ly1, ly2, ly3]
      obtain ⟨W3, hW3⟩ : ∃ W3, V.drew.alloc (.cells (recAt s P).cells.toArray 78) = W3 := ⟨_, rfl⟩
      have hb3 : Below V.drew.heap.size V.drew W3 := by rw [← hW3]; exact (Below.refl _ _).alloc (Nat.le_refl _) _
      have hat : At W3 W3.heap.size 37 (some ⟨V.heap.size, 0, none⟩) 1 (recAt s P).cells := by
        refine ⟨by rw [Ino.len hfr'.out], .inr ⟨_, rfl, ?_, fun j hj => ?_⟩⟩
        · rw [← hW3]; exact heap_lt _ _
        · have hh := Holds.new V.drew 78 (recAt s P).cells.toArray
          rw [hW3] at hh
          rw [show (⟨V.heap.size, 0, none⟩ : Addr).add j = ⟨V.heap.size, j, none⟩ from by unfold Addr.add; split <;> simp_all]
          exact (hh.cell j).trans (List.getElem?_eq_getElem hj)
      have hH3 : Holds W3 W2.heap.size 76 Hc.toList := hHeld.below hb3 hHeld.lt
      have hown3 := hid (own_keep hownV.out hb3)
      have hsz3 : wr.heap.size ≤ V.drew.heap.size := Nat.le_trans hbV.out.size (Nat.le_refl _)
      have hbW3 := hid (hbVd.out.trans (hb3.mono (Nat.le_trans hBr'.out.size hsz3)))
      have hle3 := hid (Nat.le_trans hBr'.out.size (Nat.le_trans hsz3 hb3.size))
      have hones := hid (show ∀ u ∈ (recAt s P).cells, u.oneCell' = true from fun u hu => by
        have h1 := (recAt s P).one
        exact Array.all_eq_true_iff_forall_mem.1 h1 u (by simpa using hu))
      have hat' := hid hat
      refine wp_buildOne 64 78 (.tmp 81) rfl ih7 _ Try.underlying64 hi7 hz7 (recAt s P).cells.toArray rfl (by rw [hs7, List.size_toArray, Ino.len hfr'.out]) (by rw [List.size_toArray, Ino.len hfr'.out]; decide) (by rw [List.size_toArray, Ino.len hfr'.out]; decide) ?_
      rw [hW3]
      clear hat hW3 hb3
      refine hK'.out _ _ (by exact hH3) (fun hHeld => ?_)
      clear hK' K
      refine wpAnyH_ready (rs := [35]) (by kernel_rfl) (by simp) (AllReadyH.cons rfl (fun K hK => ?_) AllReadyH.nil)
      have hK' := hid hK
      clear hK
      rw [if_pos (by kernel_rfl)]
      simp only [ly1, ly2, ly3]
      refine wp_appends (.tmp 48) (.tmp 82) 64 78 rfl w.heap.size ih7 _ 37 72 Try.underlying64 hi7 hz7 hs7 hb7 (by decide) (by decide) A k c (inoCells (recs s 2 k)) W3.heap.size (some ⟨V.heap.size, 0, none⟩) 1 1 (recAt s P).cells rfl rfl (by intro h; cases h) (by exact hones.out) (by omega) (by omega) (by exact hown3.out) (by exact hat'.out) (by exact hle3.out) ?_
      intro A2 c2 W4 hrow hb4 hgr
      have hH4 : Holds W4 W2.heap.size 76 Hc.toList := hHeld.grown hgr (fun e => by have := (hown'.out.lt _ e.symm).2; have := hqg.out; omega)
      have hfin := hid (hbW3.out.trans hb4)
      rw [← inoCells_snoc, ← hrec.out] at hrow
      have hrow' := hid hrow
      clear hrow hb4 hgr
      refine hK'.out _ _ (by exact hH4) (fun hHeld => ?_)
      clear hK' K
      refine wpAnyH_take (i := 36) (v := .slice A2 (k + 1) c2) rfl (by kernel_rfl) (by kernel_rfl) (by kernel_rfl) (fun _ _ _ h => h) (yieldsIf_assign _ rfl rfl rfl) hHeld ?_
      simp only [ly1, ly2, ly3, Act.put, ly5, ly6, ly7]
      refine wpAnyH_done (by kernel_rfl) ?_ _
      go_wp2_with fail
      go_roundw
      case rel => exact ⟨k + 1, A2, c2, by omega, by go_num, rfl, hfin.out, hrow'.out⟩
      case measure => simp [intOf]; omega
    · have hlt' : ¬ (k : Int) < (n1 : Int) := by omega
      obtain rfl : k = n1 := by omega
      have hfin := recs_fine s k 2 (by rw [hsz'.out]; exact Nat.le_refl _)
      have hfin' := hid hfin
      have hlr := recs_length s k 2
      have hI : Inos wr wr.heap.size A k (recs s 2 k) := by
        have h := inos_of_own (xs := recs s 2 k) (A := A) (c := c) (n0 := w.heap.size) (w := wr) hfin (by rw [hlr]; exact hown'.out)
        rwa [hlr] at h
      have hM := hid (refItabMay_any A k c _ _ wr hI (Nat.le_refl _) (by omega))
      have hlr' := hid hlr
      clear hfin hlr hI
      cases hi : itabB (recs s 2 k) with
      | true =>
        have hs2 := hs'.out
        rw [hi, if_pos rfl] at hs2
        obtain ⟨hR, hx⟩ := Prod.mk.inj hs2
        rw [hi] at hM
        have hR' := hid hR
        subst hx
        clear hs2 hR hi
        go_wp2_with fail
        refine hM.out.mono ?_
        rintro e W2 ⟨rfl, hb⟩
        have hb' := hid hb
        clear hb
        go_wp2_with fail
        go_ret2
        rw [← hR'.out]
        exact ⟨A, c, by rw [hlr'.out]; rfl, by rw [hlr'.out]; exact own_keep hown'.out hb'.out, hfin'.out, hBr'.out.trans (hb'.out.mono hBr'.out.size)⟩
      | false =>
        have hs2 := hs'.out
        rw [hi, if_neg (by decide)] at hs2
        obtain ⟨rfl, rfl⟩ := Prod.mk.inj hs2
        rw [hi] at hM
        clear hs2 hi
        go_wp2_with fail
        refine hM.out.mono ?_
        rintro e W2 ⟨rfl, hb⟩
        have hb' := hid hb
        clear hb
        go_wp2_with fail
        go_ret2
        exact GetPost.nil (hBr'.out.trans (hb'.out.mono hBr'.out.size))

end Go.Proofs.Ytapegklffglnoaa
