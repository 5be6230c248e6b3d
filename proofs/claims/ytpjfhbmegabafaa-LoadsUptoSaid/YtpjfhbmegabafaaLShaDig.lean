/- sha.New, Digest.Len, Digest.Write.
   Digest.Write. -/
import Derived.Test.YtpjfhbmegabafaaLMixAll
import Derived.Test.YtpjfhbmegabafaaLShaText
import Derived.Lib.LazyBuf
import Derived.Lib.SlBuf
import Derived.StillTailTactics
import Derived.Test.YtpjfhbmegabafaaLApFr
namespace Go.Proofs.Ytpjfhbmegabafaa
open Go.RowKit

def Sha.S8.list (s : Sha.S8) : List (BitVec 32) := [s.a, s.b, s.c, s.d, s.e, s.f, s.g, s.h]

/-- Eight words, as a value. -/
def s8Agg (s : Sha.S8) : Value := .agg (wordCells s.list).toArray

theorem Try.sizeW8 : (Try.prog.info? 162).map (·.size) = some 8 := by kernel_rfl

set_option maxRecDepth 100000 in
theorem firstWords_any (w : World) : Calls Try.prog 97 #[] w fun e w' => e = .returned (s8Agg Sha.S8.first) ∧ Below w.heap.size w w' := by
  go_enter Try.func97, Try.ntmps97
  go_wp2_with (refine wpList_store_mid rfl 162 (.tmp 0) (.tmp 1) rfl w.heap.size 0 (wordCells Sha.S8.first.list).toArray rfl rfl ?_ ?_ ?_ ?_)
  · exact (Holds.new _ _ _).there 0 8 (by decide)
  · exact Try.sizeW8
  · exact all_oneCell_toArray (wordCells_one _)
  · have h0 := Holds.put (Holds.new w 162 (Array.replicate 8 (.int .u32 0))) 0 (wordCells Sha.S8.first.list) (by decide)
    rw [put_all _ _ (by decide)] at h0
    refine bodyPost_ret (v := s8Agg Sha.S8.first) ?_ rfl ⟨rfl, below_setCells ((Below.refl _ _).alloc (Nat.le_refl _) _) _ _ _ (Nat.le_refl _)⟩
    exact results_cell_row rfl _ _ w.heap.size 162 (wordCells Sha.S8.first.list).toArray (0, 0) _ rfl h0 Try.underlying162 rfl Try.sizeW8

theorem ub_nat (b : UInt8) : ub b = (b.toNat : Int) := by
  unfold ub u
  have := b.toNat_lt
  rw [BitVec.toNat_ofNat]
  omega

theorem dig_len (s : Sha.S8) (rest : List UInt8) (n : Int) (hr : rest.length = 64) : (digCells s rest n)[72]? = some (.int .i64 n) := by
  unfold digCells
  rw [List.getElem?_append_right (by simp [hr])]
  simp [hr]

theorem dig_length (s : Sha.S8) (rest : List UInt8) (n : Int) (hr : rest.length = 64) : (digCells s rest n).length = 73 := by simp [digCells, hr]

/-- Bytes as cells. -/
def byteCells (l : List UInt8) : List Value := l.map fun b => .int .u8 (b.toNat : Int)

theorem byteCells_length (l : List UInt8) : (byteCells l).length = l.length := by simp [byteCells]

theorem dig_form (s : Sha.S8) (rest : List UInt8) (n : Int) : digCells s rest n = wordCells s.list ++ byteCells rest ++ [.int .i64 n] := by
  unfold digCells byteCells
  simp only [ub_nat]
  rfl

theorem wordCells_list (s : Sha.S8) : (wordCells s.list).length = 8 := rfl

theorem dig_words (s r : Sha.S8) (rest : List UInt8) (n : Int) : put (digCells s rest n) 0 (wordCells r.list) = digCells r rest n := rfl

theorem dig_bytes (s : Sha.S8) (rest x : List UInt8) (k : Nat) (n : Int) (hr : rest.length = 64) (hk : k + x.length ≤ 64) : put (digCells s rest n) (8 + k) (byteCells x) = digCells s (Sha.laid rest x k) n := by
  rw [dig_form, dig_form]
  unfold put Sha.laid
  have e1 : 8 + k = (wordCells s.list).length + k := by rw [wordCells_list]
  have h1 : (byteCells rest).length = 64 := by rw [byteCells_length, hr]
  simp only [List.append_assoc]
  rw [e1, List.take_length_add_append, Nat.add_assoc, List.drop_length_add_append, List.take_append_of_le_length (by omega), List.drop_append_of_le_length (by rw [byteCells_length]; omega), byteCells_length]
  simp only [byteCells, List.map_append, List.map_take, List.map_drop, List.append_assoc]

theorem put_one (cs : List Value) (o : Nat) (v : Value) (h : o < cs.length) : put cs o [v] = cs.set o v := by
  rw [← put_cons cs o v [] (by simp; omega)]
  unfold put
  simp

theorem dig_one (s : Sha.S8) (rest : List UInt8) (b : UInt8) (k : Nat) (n : Int) (hr : rest.length = 64) (hk : k < 64) : (digCells s rest n).set (8 + k) (.int .u8 (b.toNat : Int)) = digCells s (Sha.laid rest [b] k) n := by
  have h := dig_bytes s rest [b] k n hr (by simp; omega)
  rw [← h]
  exact (put_one _ _ _ (by rw [dig_length s rest n hr]; omega)).symm

theorem dig_count (s : Sha.S8) (rest : List UInt8) (n m : Int) (hr : rest.length = 64) : (digCells s rest n).set 72 (.int .i64 m) = digCells s rest m := by
  rw [dig_form, dig_form, List.set_append_right _ _ (by simp [byteCells, hr, wordCells_list])]
  simp [byteCells, hr, wordCells_list]

/-- A digest of which just t was written. -/
def Dig (w : World) (g : Nat) (t : List UInt8) : Prop := ∃ s rest, rest.length = 64 ∧ (t ≠ [] → Sha.Valid s rest t) ∧ Holds w g 174 (digCells s rest (t.length : Int))

/-- 'copy(dst, s)', s a string of whatever length. -/
theorem run_copy_min {P : Program} (w : World) (dT sT ty elem : TypeId) (b o dLen dCap : Nat) (t : ByteArray)
    (hu : P.underlying dT = some (.slice elem)) (hz : ∀ w, (Go.sizeOf elem).run P w = .ok 1 w)
    (hc : w.there b o dLen) :
    (Builtin.copy_ #[dT, sT] ty #[.slice (some ⟨b, o, none⟩) dLen dCap, .string t]).run P w = .ok (goInt ((min t.size dLen : Nat) : Int)) (w.setCells b o (byteCells (t.data.toList.take dLen))) := by
  have hl : (byteCells (t.data.toList.take dLen)).length = min t.size dLen := by
    rw [byteCells_length, List.length_take, Array.length_toList, Nat.min_comm]
    rfl
  have hst := run_storeCells_cells (P := P) b o (byteCells (t.data.toList.take dLen)) 0 w (by rw [hl]; intro j hj; simpa using (hc j (by omega)).1) (by rw [hl]; intro j hj; simpa using (hc j (by omega)).2) (by
    intro v hv
    obtain ⟨x, _, rfl⟩ := List.mem_map.1 hv
    rfl)
  have hm : (t.data.toList.map fun x => Value.int .u8 (x.toNat : Int)).take (Nat.min t.size dLen) = byteCells (t.data.toList.take dLen) := by
    rw [← List.map_take]
    unfold byteCells
    congr 1
    rw [List.take_eq_take_iff, Array.length_toList]
    show min (min t.size dLen) t.size = min dLen t.size
    omega
  simp [Builtin.copy_, run_underlying hu, Builtin.lenOf, Builtin.firstCells, hz]
  rw [hm, hst]
  rfl

end Go.Proofs.Ytpjfhbmegabafaa
namespace Go.Proofs.Ytpjfhbmegabafaa
open Go.RowKit

attribute [local irreducible] Sha.compress Sha.blocks

theorem sizeU8 (w : World) : (Go.sizeOf 5).run Try.prog w = .ok 1 w := by kernel_rfl

/-- What stands in a digest's block while a text is written. -/
def DigW (w : World) (g : Nat) (t : List UInt8) : Prop := ∃ s rest, Sha.Valid s rest t ∧ Holds w g 174 (digCells s rest (t.length : Int))

theorem extract_drop (y : ByteArray) (m : Nat) : (y.extract m y.size).data.toList = y.data.toList.drop m := by
  rw [ByteArray.data_extract, Array.toList_extract]
  simp
  rw [List.take_of_length_le]
  simp

theorem cut_join {y : ByteArray} {k m : Nat} {z : List UInt8} (hz : y.data.toList.take (64 - k) = z) (hm : min y.size (64 - k) = m) : z ++ (y.extract m y.size).data.toList = y.data.toList := by
  have e : y.data.toList.take m = z := by
    rw [← hz, List.take_eq_take_iff, data_length]
    omega
  rw [extract_drop, ← e, List.take_append_drop]

theorem cut_less {y : ByteArray} {k m : Nat} (hy : y.data.toList ≠ []) (hm : min y.size (64 - k) = m) (hk : k < 64) : (y.extract m y.size).size < y.size := by
  have h0 : 0 < y.size := by
    rw [← data_length]
    exact List.length_pos_iff.2 hy
  rw [← data_length, extract_drop, List.length_drop, data_length]
  omega

theorem DigW.dig {w : World} {g : Nat} {t : List UInt8} (h : DigW w g t) : Dig w g t := by
  obtain ⟨s, r, hv, hh⟩ := h
  exact ⟨s, r, hv.1, fun _ => hv, hh⟩

theorem isEmpty_no {x : ByteArray} (h : x.data.toList ≠ []) : x.toList.isEmpty = false := by
  rw [ByteArray.toList_eq]
  simpa using h

set_option maxRecDepth 100000 in
set_option maxHeartbeats 1000000 in
theorem write_any (g : Nat) (t : List UInt8) (x : ByteArray) (w : World) (hd : Dig w g t) (hn : t.length + x.size < 4611686018427387904) :
    Calls Try.prog 84 #[.pointer (some ⟨g, 0, none⟩), .string x] w fun e w' => e = .returned (.tuple #[]) ∧ Dig w' g (t ++ x.data.toList) ∧ w.grownBy w' (some g) := by
  by_cases hx : x.data.toList = []
  · have hx' : x.toList.isEmpty = true := by rw [ByteArray.toList_eq, hx]; rfl
    go_enter Try.func84, Try.ntmps84
    go_wp2
    refine bodyPost_ret (results_none rfl _ _ _) rfl ?_
    rw [hx, List.append_nil]
    exact ⟨rfl, hd, World.grownBy.refl _ _⟩
  · have hx' := isEmpty_no hx
    obtain ⟨s, rest, hr, hv, hH⟩ := hd
    have cl := (hH.cell 72).trans (dig_len s rest _ hr)
    by_cases ht : t = []
    · obtain ⟨t0, ht0⟩ : ∃ t0, t0 = t := ⟨t, rfl⟩
      have hl0 : ((t.length : Int) == 0) = true := by rw [ht]; rfl
      rw [← ht0] at hn
      clear hv
      have ht' := hid ht
      have ht0' := hid ht0
      clear ht ht0
      go_enter Try.func84, Try.ntmps84
      go_wp2_with fail
      refine (firstWords_any _).mono ?_
      rintro e w1 ⟨rfl, hb1⟩
      have hH1 := hH.below hb1 hH.lt
      have hth := hH1.there 0 8 (by rw [dig_length s rest _ hr]; omega)
      go_wp2_with (refine wpList_store_mid rfl 162 (.tmp 20) (.tmp 18) rfl g 0 (wordCells Sha.S8.first.list).toArray rfl rfl (by exact hth) (by exact Try.sizeW8) (by exact all_oneCell_toArray (wordCells_one _)) ?_; generalize hW2 : World.setCells _ _ _ _ = W2)
      have hG0 : w.grownBy W2 (some g) := by
        rw [← hW2]
        exact only_setCells (only_of_below hb1 _) _ _
      have hW : DigW W2 g (t0 ++ []) := ⟨Sha.S8.first, rest, by rw [ht0'.out, ht'.out]; exact Sha.valid_first rest hr, by
        have h := hH1.put 0 (wordCells Sha.S8.first.list) (by rw [dig_length s rest _ hr]; decide)
        rw [dig_words, hW2] at h
        rw [ht0'.out, ht'.out]
        rw [ht'.out] at h
        exact h⟩
      clear hH1 hth cl hb1 hH hW2
      go_loopw [1] (fun v wr => ∃ (dn : List UInt8) (y : ByteArray), v = .string y ∧ x.data.toList = dn ++ y.data.toList ∧ DigW wr g (t0 ++ dn) ∧ w.grownBy wr (some g)) (fun v _ => match v with | .string y => y.size | _ => 0)
      case atStart => exact ⟨[], x, rfl, rfl, hW, hG0⟩
      case round =>
        obtain ⟨dn, y, rfl, hxy, hV, hG⟩ := hrel
        by_cases hy : y.data.toList = []
        · have hy' : y.toList.isEmpty = true := by rw [ByteArray.toList_eq, hy]; rfl
          have hxy' := hid hxy
          have hV' := hid hV
          clear hxy hV hW
          go_wp2
          refine bodyPost_end (results_none rfl _ _ _) rfl ⟨rfl, ?_, hG⟩
          rw [hxy'.out, hy, List.append_nil]
          rw [← ht0'.out]
          exact hV'.out.dig
        · have hy' := isEmpty_no hy
          obtain ⟨S, R, hV, hHr⟩ := hV
          have hT : (t0 ++ dn).length + y.size < 4611686018427387904 := by
            have h1 : x.size = dn.length + y.size := by
              rw [← data_length, ← data_length y, hxy, List.length_append]
            rw [List.length_append]
            omega
          generalize hT0 : t0 ++ dn = T at *
          have hT' := hid hT0
          clear hT0
          have hR := hV.1
          have cl := (hHr.cell 72).trans (dig_len S R _ hR)
          have hk := Nat.mod_lt T.length (show 0 < 64 by omega)
          have hVk := hid hV
          have hrem : (T.length : Int) % 64 = ((T.length % 64 : Nat) : Int) := rfl
          generalize hkk : T.length % 64 = k at *
          have hkk' := hid hkk
          have hV' := hid hV
          clear hkk hV
          obtain ⟨m, hm⟩ : ∃ m, min y.size (64 - k) = m := ⟨_, rfl⟩
          obtain ⟨z, hz⟩ : ∃ z, y.data.toList.take (64 - k) = z := ⟨_, rfl⟩
          have hzl : z.length = m := by rw [← hz, List.length_take, data_length, ← hm, Nat.min_comm]
          have sl := run_sliceAt_from (P := Try.prog) 172 5 g 8 64 k hk Try.underlying172 (by kernel_rfl)
          have hcp := run_copy_min (P := Try.prog) wr 51 9 3 5 g (8 + k) (64 - k) (64 - k) y Try.underlying51 sizeU8 (hHr.there _ _ (by rw [dig_length S R _ hR]; omega))
          rw [hm, hz] at hcp
          have hH1 := hHr.put (8 + k) (byteCells z) (by rw [dig_length S R _ hR, byteCells_length]; omega)
          rw [dig_bytes S R z k _ hR (by omega)] at hH1
          have hG1 := only_setCells hG (8 + k) (byteCells z)
          generalize wr.setCells g (8 + k) (byteCells z) = W1 at *
          have hR1 : (Sha.laid R z k).length = 64 := by rw [Sha.laid_length R z k (by omega), hR]
          have cl1 := (hH1.cell 72).trans (dig_len S _ _ hR1)
          have cf1 := hH1.frozen 72
          have a1 := IntWalk.i64_in ((T.length : Int) + (m : Int)) (by omega)
          have a2 := IntWalk.i64_in ((k : Int) + (m : Int)) (by omega)
          have m1 : m ≤ y.size := by omega
          have hH2 := hH1.set 72 (.int .i64 ((T.length : Int) + (m : Int)))
          rw [dig_count S _ _ _ hR1] at hH2
          have hG2 := only_setCell hG1 72 (.int .i64 ((T.length : Int) + (m : Int)))
          have hH2' := hid hH2
          have hG2' := hid hG2
          have hxy' := hid hxy
          have hzl' := hid hzl
          have hm' := hid hm
          have hz' := hid hz
          clear hH2 hG2 hH1 hG1 hHr hxy hzl hm hz hG hW hG0
          go_wp2_with (refine Lib.wpList_copy_run _ rfl _ _ 51 9 rfl _ _ rfl rfl (by exact hcp) ?_)
          · rename_i hb
            have hkm : k + m = 64 := by
              have := of_decide_eq_true hb
              omega
            clear hb a1 a2 hcp cl1 cf1 cl
            go_still_tail 6, (by kernel_rfl)
            change wpList _ _ _ _ _ (World.drew _)
            go_wp2_with fail
            refine (mix_any g _ S (Sha.laid R z k) _ hR1 _ hH2'.out.drew).mono ?_
            rintro e w2 ⟨rfl, hH3, hG3⟩
            have hH3' := hid hH3
            have hG3' := hid hG3
            clear hH3 hG3
            go_wp2
            go_roundw
            case rel =>
              refine ⟨dn ++ z, _, rfl, ?_, ?_, only_trans (only_drew hG2'.out) hG3'.out⟩
              · rw [hxy'.out, List.append_assoc, cut_join hz'.out hm'.out]
              · rw [← List.append_assoc, hT'.out]
                have hv := Sha.valid_whole (x := z) hVk.out (by rw [hkk'.out, hzl'.out]; exact hkm)
                rw [hkk'.out] at hv
                refine ⟨_, _, hv, ?_⟩
                rw [List.length_append, hzl'.out, Int.natCast_add]
                exact hH3'.out
            case measure => exact cut_less hy hm'.out hk
          · rename_i hb
            have hkm : k + m ≠ 64 := by
              intro e
              apply of_decide_eq_false hb
              omega
            clear hb a1 a2 hcp cl1 cf1 cl
            go_wp2
            go_roundw
            case rel =>
              refine ⟨dn ++ z, _, rfl, ?_, ?_, hG2'.out⟩
              · rw [hxy'.out, List.append_assoc, cut_join hz'.out hm'.out]
              · rw [← List.append_assoc, hT'.out]
                have hv := Sha.valid_part (x := z) hVk.out (by rw [hkk'.out, hzl'.out]; have := hm'.out; omega)
                rw [hkk'.out] at hv
                refine ⟨_, _, hv, ?_⟩
                rw [List.length_append, hzl'.out, Int.natCast_add]
                exact hH2'.out
            case measure => exact cut_less hy hm'.out hk
    · have hl0 : ((t.length : Int) == 0) = false := by
        simp
        exact ht
      obtain ⟨t0, ht0⟩ : ∃ t0, t0 = t := ⟨t, rfl⟩
      have hW : DigW w g (t0 ++ []) := by
        rw [List.append_nil, ht0]
        exact ⟨s, rest, hv ht, hH⟩
      have hG0 : w.grownBy w (some g) := World.grownBy.refl _ _
      rw [← ht0] at hn
      have ht0' := hid ht0
      clear hv ht0 ht
      go_enter Try.func84, Try.ntmps84
      go_wp2
      clear cl hH hl0
      go_loopw [1] (fun v wr => ∃ (dn : List UInt8) (y : ByteArray), v = .string y ∧ x.data.toList = dn ++ y.data.toList ∧ DigW wr g (t0 ++ dn) ∧ w.grownBy wr (some g)) (fun v _ => match v with | .string y => y.size | _ => 0)
      case atStart => exact ⟨[], x, rfl, rfl, hW, hG0⟩
      case round =>
        obtain ⟨dn, y, rfl, hxy, hV, hG⟩ := hrel
        by_cases hy : y.data.toList = []
        · have hy' : y.toList.isEmpty = true := by rw [ByteArray.toList_eq, hy]; rfl
          have hxy' := hid hxy
          have hV' := hid hV
          clear hxy hV hW
          go_wp2
          refine bodyPost_end (results_none rfl _ _ _) rfl ⟨rfl, ?_, hG⟩
          rw [hxy'.out, hy, List.append_nil]
          rw [← ht0'.out]
          exact hV'.out.dig
        · have hy' := isEmpty_no hy
          obtain ⟨S, R, hV, hHr⟩ := hV
          have hT : (t0 ++ dn).length + y.size < 4611686018427387904 := by
            have h1 : x.size = dn.length + y.size := by
              rw [← data_length, ← data_length y, hxy, List.length_append]
            rw [List.length_append]
            omega
          generalize hT0 : t0 ++ dn = T at *
          have hT' := hid hT0
          clear hT0
          have hR := hV.1
          have cl := (hHr.cell 72).trans (dig_len S R _ hR)
          have hk := Nat.mod_lt T.length (show 0 < 64 by omega)
          have hVk := hid hV
          have hrem : (T.length : Int) % 64 = ((T.length % 64 : Nat) : Int) := rfl
          generalize hkk : T.length % 64 = k at *
          have hkk' := hid hkk
          have hV' := hid hV
          clear hkk hV
          obtain ⟨m, hm⟩ : ∃ m, min y.size (64 - k) = m := ⟨_, rfl⟩
          obtain ⟨z, hz⟩ : ∃ z, y.data.toList.take (64 - k) = z := ⟨_, rfl⟩
          have hzl : z.length = m := by rw [← hz, List.length_take, data_length, ← hm, Nat.min_comm]
          have sl := run_sliceAt_from (P := Try.prog) 172 5 g 8 64 k hk Try.underlying172 (by kernel_rfl)
          have hcp := run_copy_min (P := Try.prog) wr 51 9 3 5 g (8 + k) (64 - k) (64 - k) y Try.underlying51 sizeU8 (hHr.there _ _ (by rw [dig_length S R _ hR]; omega))
          rw [hm, hz] at hcp
          have hH1 := hHr.put (8 + k) (byteCells z) (by rw [dig_length S R _ hR, byteCells_length]; omega)
          rw [dig_bytes S R z k _ hR (by omega)] at hH1
          have hG1 := only_setCells hG (8 + k) (byteCells z)
          generalize wr.setCells g (8 + k) (byteCells z) = W1 at *
          have hR1 : (Sha.laid R z k).length = 64 := by rw [Sha.laid_length R z k (by omega), hR]
          have cl1 := (hH1.cell 72).trans (dig_len S _ _ hR1)
          have cf1 := hH1.frozen 72
          have a1 := IntWalk.i64_in ((T.length : Int) + (m : Int)) (by omega)
          have a2 := IntWalk.i64_in ((k : Int) + (m : Int)) (by omega)
          have m1 : m ≤ y.size := by omega
          have hH2 := hH1.set 72 (.int .i64 ((T.length : Int) + (m : Int)))
          rw [dig_count S _ _ _ hR1] at hH2
          have hG2 := only_setCell hG1 72 (.int .i64 ((T.length : Int) + (m : Int)))
          have hH2' := hid hH2
          have hG2' := hid hG2
          have hxy' := hid hxy
          have hzl' := hid hzl
          have hm' := hid hm
          have hz' := hid hz
          clear hH2 hG2 hH1 hG1 hHr hxy hzl hm hz hG hW hG0
          go_wp2_with (refine Lib.wpList_copy_run _ rfl _ _ 51 9 rfl _ _ rfl rfl (by exact hcp) ?_)
          · rename_i hb
            have hkm : k + m = 64 := by
              have := of_decide_eq_true hb
              omega
            clear hb a1 a2 hcp cl1 cf1 cl
            go_still_tail 6, (by kernel_rfl)
            change wpList _ _ _ _ _ (World.drew _)
            go_wp2_with fail
            refine (mix_any g _ S (Sha.laid R z k) _ hR1 _ hH2'.out.drew).mono ?_
            rintro e w2 ⟨rfl, hH3, hG3⟩
            have hH3' := hid hH3
            have hG3' := hid hG3
            clear hH3 hG3
            go_wp2
            go_roundw
            case rel =>
              refine ⟨dn ++ z, _, rfl, ?_, ?_, only_trans (only_drew hG2'.out) hG3'.out⟩
              · rw [hxy'.out, List.append_assoc, cut_join hz'.out hm'.out]
              · rw [← List.append_assoc, hT'.out]
                have hv := Sha.valid_whole (x := z) hVk.out (by rw [hkk'.out, hzl'.out]; exact hkm)
                rw [hkk'.out] at hv
                refine ⟨_, _, hv, ?_⟩
                rw [List.length_append, hzl'.out, Int.natCast_add]
                exact hH3'.out
            case measure => exact cut_less hy hm'.out hk
          · rename_i hb
            have hkm : k + m ≠ 64 := by
              intro e
              apply of_decide_eq_false hb
              omega
            clear hb a1 a2 hcp cl1 cf1 cl
            go_wp2
            go_roundw
            case rel =>
              refine ⟨dn ++ z, _, rfl, ?_, ?_, hG2'.out⟩
              · rw [hxy'.out, List.append_assoc, cut_join hz'.out hm'.out]
              · rw [← List.append_assoc, hT'.out]
                have hv := Sha.valid_part (x := z) hVk.out (by rw [hkk'.out, hzl'.out]; have := hm'.out; omega)
                rw [hkk'.out] at hv
                refine ⟨_, _, hv, ?_⟩
                rw [List.length_append, hzl'.out, Int.natCast_add]
                exact hH2'.out
            case measure => exact cut_less hy hm'.out hk

end Go.Proofs.Ytpjfhbmegabafaa
