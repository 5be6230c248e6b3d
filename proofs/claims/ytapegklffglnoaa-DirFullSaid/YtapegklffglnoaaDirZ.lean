/- Layer 13: DirFull. -/
import Derived.Test.YtapegklffglnoaaDirW
import Derived.Test.YtapegklffglnoaaArith
namespace Go.Proofs.Ytapegklffglnoaa
open Go.RowKit
open Go.Lib (strCells)

def fullE (o n : Int) (i : Nat) : Ent := ⟨⟨#[UInt8.ofNat (65 + i)]⟩, o, n⟩
def fullL (o n : Int) (k : Nat) : List Ent := (List.range k).map (fullE o n)
theorem full_len (o n : Int) (k : Nat) : (fullL o n k).length = k := by simp [fullL]
theorem full_at (o n : Int) (k i : Nat) (h : i < k) : (fullL o n k)[i]? = some (fullE o n i) := by
  unfold fullL
  rw [List.getElem?_map, List.getElem?_range h]
  rfl
theorem full_next (o n : Int) (k : Nat) : fullL o n k ++ [fullE o n k] = fullL o n (k + 1) := by simp [fullL, List.range_succ]
theorem full_size (o n : Int) (i : Nat) : (fullE o n i).name.size = 1 := rfl
theorem full_fine (o n : Int) (i : Nat) : (fullE o n i).fine := by show 1 ≤ 140737488351232; decide
theorem full_fines (o n : Int) (k : Nat) : ∀ x ∈ fullL o n k, x.fine := fun x hx => by
  obtain ⟨i, -, rfl⟩ := List.mem_map.1 hx
  exact full_fine o n i
theorem full_nameOk : ∀ i, i < 32 → Pth.nameOk (fullE 0 0 i).name.data.toList = true := by decide +kernel
theorem full_may {o n : Int} (h : refB o n = true) (i : Nat) (hi : i < 32) : (fullE o n i).may = true := by
  unfold Ent.may
  rw [show (fullE o n i).name = (fullE 0 0 i).name from rfl, full_nameOk i hi]
  exact h
theorem full_less0 : ∀ i, i < 32 → ∀ j, j < 32 → i < j → lessB (fullE 0 0 i).name (fullE 0 0 j).name = true := by decide +kernel
theorem full_less (o n : Int) {i j : Nat} (hi : i < 32) (hj : j < 32) (h : i < j) : lessB (fullE o n i).name (fullE o n j).name = true := full_less0 i hi j hj h
theorem full_dir {o n : Int} (h : refB o n = true) (k : Nat) (hk : k ≤ 32) : dirB (fullL o n k) = true := dirB_yes ⟨by rw [full_len]; exact hk, fun x hx => by
    obtain ⟨i, hi, rfl⟩ := List.mem_map.1 hx
    exact full_may h i (by have := List.mem_range.1 hi; omega), fun i a b hi ha hb => by
    rw [full_len] at hi
    rw [full_at _ _ _ _ (by omega)] at ha hb
    obtain rfl := Option.some.inj ha
    obtain rfl := Option.some.inj hb
    exact full_less o n (by omega) (by omega) (by omega)⟩
theorem full_low (o n : Int) (k : Nat) (hk : k < 32) : lowE (fullL o n k) (fullE o n k).name = k := low_of (by rw [full_len]; exact Nat.le_refl _) (fun t x ht hx => by
    rw [full_at _ _ _ _ ht] at hx
    obtain rfl := Option.some.inj hx
    exact full_less o n (by omega) hk ht) (fun x hx => by
    rw [List.getElem?_eq_none (by rw [full_len]; exact Nat.le_refl _)] at hx
    cases hx)
theorem full_with (o n : Int) (k : Nat) (hk : k < 32) : withE (fullL o n k) (fullE o n k) = fullL o n (k + 1) := by
  unfold withE
  rw [full_low o n k hk, List.take_of_length_le (by rw [full_len]; exact Nat.le_refl _), List.drop_eq_nil_of_le (by rw [full_len]; omega), List.append_nil, full_next]
theorem full_set {o n : Int} (h : refB o n = true) (k : Nat) (hk : k < 32) : setS (fullL o n k) (fullE o n k) = (fullL o n (k + 1), 0) := by
  unfold setS
  rw [full_dir h k (by omega), full_may h k hk, full_with o n k hk, full_len, show (true && true && decide (k + 1 ≤ 32)) = true from by simp; omega]
  rfl
def fullZ (o n : Int) : Ent := ⟨⟨#[122, 122]⟩, o, n⟩
def fullC : Ent := ⟨⟨#[67]⟩, 0, 1⟩
theorem full_withZ (o n : Int) : (withE (fullL o n 32) (fullZ o n)).length = 33 := by kernel_rfl
theorem full_setZ (o n : Int) : setS (fullL o n 32) (fullZ o n) = ([], 1300) := by
  unfold setS
  rw [full_withZ, show decide (33 ≤ 32) = false from by decide, Bool.and_false]
  rfl
theorem full_withC (o n : Int) : (withE (fullL o n 32) fullC).length = 32 := by kernel_rfl
theorem full_setC {o n : Int} (h : refB o n = true) : setS (fullL o n 32) fullC = (withE (fullL o n 32) fullC, 0) := by
  unfold setS
  rw [full_withC, full_dir h 32 (Nat.le_refl _), show fullC.may = true from by decide +kernel]
  rfl
theorem full_findC (o n : Int) : findE (withE (fullL o n 32) fullC) ⟨#[67]⟩ = some fullC := by kernel_rfl
theorem full_bytes (o n : Int) : ∀ (xs : List Ent) (s : ByteArray), (∀ x ∈ xs, x.name.size = 1) → (entFrom s xs).size = s.size + 4 * xs.length
  | [], s, _ => rfl
  | x :: xs, s, h => by
    have e : entFrom s (x :: xs) = entFrom (s ++ x.bytes) xs := rfl
    rw [e, full_bytes o n xs _ fun y hy => h y (List.mem_cons_of_mem _ hy), ByteArray.size_append, Ent.bytes_size, h x (List.mem_cons_self ..), List.length_cons]
    omega
theorem full_put {o n : Int} (h : refB o n = true) : ∃ s, eputS (fullL o n 32) = (s, 0) ∧ s.size = 130 := by
  refine ⟨_, eputS_yes (full_dir h 32 (Nat.le_refl _)), ?_⟩
  unfold entBytes
  rw [full_bytes o n _ _ fun x hx => by
    obtain ⟨i, -, rfl⟩ := List.mem_map.1 hx
    rfl]
  rw [full_len, ByteArray.size_append, ByteArray.size_append, be_size]
  rfl
theorem full_maxLen (o n : Int) (i : Nat) : (fullE o n i).name.size ≤ maxLen := by
  rw [full_size]
  unfold maxLen
  omega
theorem full_call {A : Option Addr} {k c : Nat} {o n : Int} {w : World} (hE : Ents w w.heap.size A k (fullL o n k)) (hk : k < 32) (hc : k ≤ c) (hnil : A = none → c = 0) (h : refB o n = true) :
    Calls Try.prog 26 #[.slice A k c, .string ⟨#[UInt8.ofNat (65 + k)]⟩, .agg #[.int .i64 o, .int .i64 n]] w (SetPost (fullL o n (k + 1)) 0 w) :=
  dirSet_any A k c w.heap.size (fullL o n k) (fullE o n k) w hE (Nat.le_refl _) (by omega) hc hnil (full_maxLen o n k) (fullL o n (k + 1)) 0 (full_set h k hk)
theorem full_byte (k : Nat) (hk : k < 32) : strCells ⟨#[UInt8.ofNat (65 + k)]⟩ = [.int .u8 (65 + (k : Int))] := by
  unfold strCells
  show [Value.int .u8 ((UInt8.ofNat (65 + k)).toNat : Int)] = _
  rw [show (UInt8.ofNat (65 + k)).toNat = 65 + k from by simp; omega]
  rfl

set_option maxRecDepth 100000 in
set_option maxHeartbeats 600000 in
theorem DirFull_law {w : World} (o m : Int) :
    Calls Try.prog 9 #[.agg #[.int .i64 o, .int .i64 m]] w fun e w' => e = .returned (.bool true) ∧ Below w.heap.size w w' := by
  obtain ⟨r1, hr1, hrem1⟩ := u_rem o 24 (by decide) (by decide)
  obtain ⟨r2, hr2, hrem2⟩ := u_rem m 32 (by decide) (by decide)
  have hrem1' : (IntKind.u64.wrap o).tmod 24 = (r1 : Int) := hrem1
  have hrem2' : (IntKind.u64.wrap m).tmod 32 = (r2 : Int) := hrem2
  obtain ⟨O, hO⟩ : ∃ O : Int, (r1 : Int) = O := ⟨_, rfl⟩
  obtain ⟨M, hM⟩ : ∃ M : Int, 1 + (r2 : Int) = M := ⟨_, rfl⟩
  have hRef : refB O M = true := by unfold refB; exact decide_eq_true (by omega)
  have w1 := IntWalk.i64_in (r1 : Int) (by omega)
  have w2 := IntWalk.i64_in (r2 : Int) (by omega)
  have w3 := IntWalk.i64_in (1 + (r2 : Int)) (by omega)
  obtain ⟨V0, hV0⟩ : ∃ V0, w.alloc (.cells #[.int .i64 o, .int .i64 m] 38) = V0 := ⟨_, rfl⟩
  have hH0 := hid (show Holds V0 w.heap.size 38 [.int .i64 o, .int .i64 m] from by rw [← hV0]; exact Holds.new _ _ _)
  have hb0 := hid (show Below w.heap.size w V0 from by rw [← hV0]; exact (Below.refl _ _).alloc (Nat.le_refl _) _)
  have hlt0 := hid hH0.out.lt
  have hV0' := hid hV0
  have hO' := hid hO
  have hM' := hid hM
  clear hV0 hrem1 hrem2 hO hM
  go_enter Try.func9, Try.ntmps9
  go_wp2_with (first
    | ((with_reducible refine at_slot (some 1) ?_); refine wpList_run rfl (.pointer (some ⟨w.heap.size, 0, none⟩)) (w.alloc (.cells #[.int .i64 o, .int .i64 m] 38)) (by kernel_rfl) ?_; rw [hV0'.out])
    | fail)
  refine (awake13_any _).mono ?_
  rintro e W1 ⟨rfl, hb1⟩
  have hH1 := hH0.out.below hb1 hlt0.out
  have c0 : W1.cell? ⟨w.heap.size, 0, none⟩ = some (.int .i64 o) := (hH1.cell 0).trans rfl
  have c1 : W1.cell? ⟨w.heap.size, 1, none⟩ = some (.int .i64 m) := (hH1.cell 1).trans rfl
  have hB1 := hid (hb0.out.trans (hb1.mono hb0.out.size))
  obtain ⟨V1, hV1, hR1, hbR⟩ := ref_new W1 O M
  have hV1' := hid hV1
  have hR1' := hid hR1
  have hBV := hid (hB1.out.trans (hbR.mono hB1.out.size))
  clear hb1 hH1 hV1 hR1 hbR
  go_wp2_with fail
  rw [hO'.out, hM'.out, hV1'.out]
  go_loopw [4, 5] (fun s i wr => ∃ (k : Nat) (A : Option Addr) (c : Nat), k ≤ 32 ∧ s = .slice A k c ∧ i = .int .i64 (k : Int) ∧ Ents wr wr.heap.size A k (fullL O M k) ∧ k ≤ c ∧ (A = none → c = 0) ∧ Below V1.heap.size V1 wr) (fun _ i _ => 32 - (intOf i).toNat)
  case atStart => exact ⟨0, none, 0, by omega, rfl, rfl, Ents.nil _ _ _, Nat.le_refl _, fun _ => rfl, Below.refl _ _⟩
  case round =>
    obtain ⟨k, A, c, hk, rfl, rfl, hE, hc, hnil, hBr⟩ := hrel
    have hE' := hid hE
    have hBr' := hid hBr
    have hR := hid (hR1'.out.below hBr hR1'.out.lt)
    clear hE hBr
    by_cases hlt : k < 32
    · have hlt' : (k : Int) < 32 := by omega
      have u1 := IntWalk.u8_in (k : Int) (by omega)
      have u2 := IntWalk.u8_in (65 + (k : Int)) (by omega)
      have u3 := IntWalk.i64_in ((k : Int) + 1) (by omega)
      obtain ⟨Wb, hWb⟩ : ∃ Wb, wr.alloc (.cells #[.int .u8 (65 + (k : Int))] 5) = Wb := ⟨_, rfl⟩
      have hHb := hid (show Holds Wb wr.heap.size 5 [.int .u8 (65 + (k : Int))] from by rw [← hWb]; exact Holds.new _ _ _)
      have hBb := hid (show Below wr.heap.size wr Wb from by rw [← hWb]; exact (Below.refl _ _).alloc (Nat.le_refl _) _)
      have hWb' := hid hWb
      obtain ⟨nmk, hnmk⟩ : ∃ s : ByteArray, (⟨#[UInt8.ofNat (65 + k)]⟩ : ByteArray) = s := ⟨_, rfl⟩
      have hby := full_byte k hlt
      have hns : nmk.size = 1 := by rw [← hnmk]; rfl
      rw [hnmk] at hby
      have hcv := hid (run_convert_block (P := Try.prog) (w := Wb) (s := nmk) (c := 1) 62 9 Try.underlying62 Try.underlying5 Try.underlying9 hns.symm hHb.out hby.symm)
      have hRb := hid (hR.out.below hBb.out hR.out.lt)
      have hCall0 := full_call (hE'.out.on hBb.out) hlt hc hnil hRef
      rw [hnmk] at hCall0
      have hCall := hid hCall0
      clear hWb hCall0 hnmk hby hns
      go_wp2_with (first
        | ((with_reducible refine at_slot (some 39) ?_); refine wpList_run rfl (.slice (some ⟨wr.heap.size, 0, none⟩) 1 1) (wr.alloc (.cells #[.int .u8 (65 + (k : Int))] 5)) (by kernel_rfl) ?_; rw [hWb'.out])
        | ((with_reducible refine at_slot (some 40) ?_); refine wpList_convert rfl 62 9 (.tmp 39) rfl _ (.string nmk) _ rfl (by exact hcv.out) ?_)
        | ((with_reducible refine at_slot (some 41) ?_); refine wpList_load_any rfl 38 (.tmp 3) rfl ⟨W1.heap.size, 0, none⟩ rfl [.int .i64 O, .int .i64 M] _ (by exact hRb.out.any) Try.underlying38 rfl (by exact Try.infoRef) ?_)
        | fail)
      refine hCall.out.mono ?_
      rintro e W4 ⟨A4, c4, he, hown, hb⟩
      rw [full_len] at he
      subst he
      have hF := hid (ents_of_own (full_fines O M (k + 1)) hown)
      rw [full_len] at hF
      rw [full_len] at hown
      have hcap := own_cap hown
      obtain ⟨g4, rfl⟩ := own_head hown (Nat.succ_pos k)
      have hB4 := hid (on_trans hBr'.out (on_trans hBb.out hb))
      clear hown hb
      have hne : ((k : Int) + 1 == (k : Int) + 1) = true := by simp
      go_wp2_with (go_at_call 16; refine (errNum_any _ _).mono ?_; rintro e w' ⟨rfl, rfl⟩)
      go_roundw
      case rel => exact ⟨k + 1, _, c4, by omega, rfl, by go_num, hF.out, hcap, (fun h => by cases h), hB4.out⟩
      case measure => simp [intOf]; omega
    · obtain rfl : k = 32 := by omega
      have hlt' : ¬ ((32 : Nat) : Int) < 32 := by decide
      go_wp2_with (first
        | ((with_reducible refine at_slot (some 58) ?_); refine wpList_load_any rfl 38 (.tmp 3) rfl ⟨W1.heap.size, 0, none⟩ rfl [.int .i64 O, .int .i64 M] _ (by exact hR.out.any) Try.underlying38 rfl (by exact Try.infoRef) ?_)
        | fail)
      refine (dirSet_any A 32 c _ (fullL O M 32) (fullZ O M) wr hE'.out (Nat.le_refl _) (by decide) hc hnil (by show (⟨#[122, 122]⟩ : ByteArray).size ≤ maxLen; decide +kernel) _ _ (full_setZ O M)).mono ?_
      rintro e W4 ⟨A4, c4, he, -, hb⟩
      rw [show ([] : List Ent).length = 0 from rfl] at he
      subst he
      have hE4 := hid (hE'.out.on hb)
      have hB4 := hid (on_trans hBr'.out hb)
      clear hb
      go_wp2_with (first
        | ((with_reducible refine at_slot (some 64) ?_); refine wpList_run rfl (.agg #[.int .i64 0, .int .i64 1]) W4 (by kernel_rfl) ?_)
        | fail)
      refine (dirSet_any A 32 c _ (fullL O M 32) fullC W4 hE4.out (Nat.le_refl _) (by decide) hc hnil (by show (⟨#[67]⟩ : ByteArray).size ≤ maxLen; decide +kernel) _ _ (full_setC hRef)).mono ?_
      rintro e W5 ⟨A5, c5, he, hown, hb⟩
      rw [full_withC] at he
      subst he
      have hX5 := hid (ents_of_own (set_fine (full_setC hRef) (full_fines O M 32) (show fullC.fine from by show (⟨#[67]⟩ : ByteArray).size ≤ 140737488351232; decide +kernel)) hown)
      rw [full_withC] at hX5
      have hE5 := hid (hE4.out.on hb)
      have hB5 := hid (on_trans hB4.out hb)
      clear hb hown
      have hFd := dirFind_any _ 32 c5 _ _ ⟨#[67]⟩ W5 hX5.out (Nat.le_refl _) (by decide)
      rw [full_findC] at hFd
      go_wp2_with fail
      refine hFd.mono ?_
      clear hFd
      rintro e W6 ⟨he, hb⟩
      rw [show (some fullC).getD noEnt = fullC from rfl, show (some fullC).isSome = true from rfl] at he
      subst he
      obtain ⟨V6, hV6, hH6, hB6⟩ := ref_new W6 0 1
      have hE6 := hid (hE5.out.on (on_trans hb hB6))
      have hB7 := hid (on_trans hB5.out (on_trans hb hB6))
      have hH6' := hid hH6
      have hV6' := hid hV6
      clear hb hB6 hH6 hV6
      obtain ⟨sf, hsf, hsz⟩ := full_put hRef
      go_wp2_with fail
      rw [show (#[.int .i64 fullC.owner, .int .i64 fullC.num] : Array Value) = #[.int .i64 0, .int .i64 1] from rfl, hV6'.out]
      refine (dirPut_any A 32 c _ (fullL O M 32) V6 hE6.out (Nat.le_refl _) (by decide) sf 0 hsf).mono ?_
      rintro e W8 ⟨rfl, hb⟩
      have hB8 := hid (on_trans hB7.out hb)
      have hH8 := hid (hH6'.out.below hb hH6'.out.lt)
      clear hb
      have hsz2 : ((sf.size : Int) == 130) = true := by rw [hsz]; rfl
      go_wp2_with (first
        | (go_at_call 16; refine (errNum_any _ _).mono ?_; rintro e w' ⟨rfl, rfl⟩)
        | ((with_reducible refine at_slot (some 95) ?_); refine wpList_load_any_on (by kernel_rfl) 38 (.tmp 12) rfl ⟨W6.heap.size, 0, none⟩ rfl [.int .i64 0, .int .i64 1] _ (by exact hH8.out.any) Try.underlying38 rfl (by exact Try.infoRef) ?_)
        | ((with_reducible refine at_slot (some 96) ?_); refine wpList_run_on (by kernel_rfl) (.agg #[.int .i64 0, .int .i64 1]) W8 (by kernel_rfl) ?_)
        | ((with_reducible refine at_slot (some 97) ?_); refine wpList_ref_eql (by kernel_rfl) (.tmp 95) (.tmp 96) _ rfl 0 1 rfl rfl ?_)
        | fail)
      go_ret
      exact ⟨rfl, hBV.out.trans (hB8.out.mono hBV.out.size)⟩

end Go.Proofs.Ytapegklffglnoaa
