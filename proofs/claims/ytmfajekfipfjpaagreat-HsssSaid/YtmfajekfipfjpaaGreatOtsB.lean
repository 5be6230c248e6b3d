/- Layer 4, the program's side: digits.
   Layer 4, the program's side: Public.
   Layer 4, the program's side: lists of hashes that are being filled.
   Layer 4, the program's side: Public, the answer. -/
import Derived.Test.YtmfajekfipfjpaaGreatOtsA
import Derived.Test.YtmfajekfipfjpaaGreatRefBe
set_option maxRecDepth 100000
namespace Go.Proofs.YtmfajekfipfjpaaGreat
open Go.RowKit
open Go.Lib (strCells strCells_length strCells_oneCell)
attribute [local irreducible] Sha.compress Sha.blocks Sha.sha Sha.pad

theorem Tryz.infoIntD : (Tryz.prog.info? 3).map (fun i => (i.zero, i.size, i.bytes)) = some (some (.int .i64 0), 1, 8) := by kernel_rfl

/-- What the digits want of a kind. -/
structure ParOk (o : Ots.Par) (m : Nat) : Prop where
  m0 : 256 / o.w = m
  w1 : 1 ≤ o.w
  w8 : o.w ≤ 8
  mp : m ≤ o.p
  p100 : o.p ≤ 100
  l4 : o.ls ≤ 4
  fst : ∀ i, i < m → DigitMay o.w i 32
  snd : ∀ i, i < o.p - m → DigitMay o.w i 2

theorem par_ok {kind : Int} {o : Ots.Par} (h : Ots.par kind = some o) : ∃ m, ParOk o m := by
  unfold Ots.par at h
  split at h
  · cases h
    exact ⟨64, rfl, by decide, by decide, by decide, by decide, by decide, fun i hi => ⟨by decide, by decide, by omega, by show i * 4 / 8 < 32; omega, by show 4 + i * 4 % 8 ≤ 8; omega⟩, fun i hi => ⟨by decide, by decide, by have : i < 67 - 64 := hi; omega, by have : i < 67 - 64 := hi; show i * 4 / 8 < 2; omega, by show 4 + i * 4 % 8 ≤ 8; omega⟩⟩
  · split at h
    · cases h
      exact ⟨32, rfl, by decide, by decide, by decide, by decide, by decide, fun i hi => ⟨by decide, by decide, by omega, by show i * 8 / 8 < 32; omega, by show 8 + i * 8 % 8 ≤ 8; omega⟩, fun i hi => ⟨by decide, by decide, by have : i < 34 - 32 := hi; omega, by have : i < 34 - 32 := hi; show i * 8 / 8 < 2; omega, by show 8 + i * 8 % 8 ≤ 8; omega⟩⟩
    · cases h

/-- A list of numbers. -/
def nums (l : List Nat) : List Value := l.map fun (x : Nat) => .int .i64 (x : Int)
theorem nums_length (l : List Nat) : (nums l).length = l.length := by simp [nums]
theorem nums_at (l : List Nat) (k : Nat) : (nums l)[k]? = l[k]?.map fun (x : Nat) => Value.int .i64 (x : Int) := by simp [nums]
theorem joinS_msg (head salt msg : ByteArray) : joinS [head, be 2 33153, salt, msg] = head.data.toList ++ [0x81, 0x81] ++ salt.data.toList ++ msg.data.toList := by
  rw [joinS4, List.append_assoc, List.append_assoc]
  rfl

/-- What lies where while the digits are told. -/
structure Dgs (w wr : World) (o : Ots.Par) (gQ gA : Nat) (q : List UInt8) (l : List Nat) : Prop where
  o : Holds wr w.heap.size 54 (parC o).toList
  q : Holds wr gQ 60 (byteCells q)
  a : Holds wr gA 3 (nums l)
  lq : w.heap.size < gQ
  la : gQ < gA
  b : Below w.heap.size w wr

theorem Dgs.below {w wr w' : World} {o : Ots.Par} {gQ gA : Nat} {q : List UInt8} {l : List Nat} (h : Dgs w wr o gQ gA q l) (hb : Below wr.heap.size wr w') : Dgs w w' o gQ gA q l :=
  ⟨h.o.below hb h.o.lt, h.q.below hb h.q.lt, h.a.below hb h.a.lt, h.lq, h.la, h.b.trans (hb.mono h.b.size)⟩

theorem Dgs.drew {w wr : World} {o : Ots.Par} {gQ gA : Nat} {q : List UInt8} {l : List Nat} (h : Dgs w wr o gQ gA q l) : Dgs w wr.drew o gQ gA q l := h.below (Below.refl _ _).drew

theorem Dgs.set {w wr : World} {o : Ots.Par} {gQ gA : Nat} {q : List UInt8} {l : List Nat} (h : Dgs w wr o gQ gA q l) (k v : Nat) : Dgs w (wr.setCell ⟨gA, k, none⟩ (.int .i64 (v : Int))) o gQ gA q (l.set k v) := by
  have h1 := h.lq
  have h2 := h.la
  refine ⟨h.o.far _ (by show w.heap.size ≠ gA; omega) _, h.q.far _ (by show gQ ≠ gA; omega) _, ?_, h1, h2, ?_⟩
  · have e : nums (l.set k v) = (nums l).set k (.int .i64 (v : Int)) := by
      unfold nums
      rw [List.map_set]
    rw [e]
    exact h.a.set k _
  · exact h.b.setCell (by show w.heap.size ≤ gA; omega) _

theorem Dgs.cells {w wr : World} {o : Ots.Par} {gQ gA : Nat} {q : List UInt8} {l : List Nat} (h : Dgs w wr o gQ gA q l) :
    wr.cell? ⟨w.heap.size, 0, none⟩ = some (.int .i64 (o.w : Int)) ∧ wr.cell? ⟨w.heap.size, 1, none⟩ = some (.int .i64 (o.p : Int)) ∧ wr.cell? ⟨w.heap.size, 2, none⟩ = some (.int .i64 (o.ls : Int)) :=
  ⟨h.o.cell 0, h.o.cell 1, h.o.cell 2⟩

theorem Dgs.num {w wr : World} {o : Ots.Par} {gQ gA : Nat} {q : List UInt8} {l : List Nat} (h : Dgs w wr o gQ gA q l) {k d : Nat} (hd : l[k]? = some d) :
    wr.cell? ⟨gA, k, none⟩ = some (.int .i64 (d : Int)) ∧ wr.frozen? ⟨gA, k, none⟩ = false :=
  ⟨by rw [h.a.cell, nums_at, hd]; rfl, h.a.frozen k⟩

/-- The digits so far. -/
def sofar (o : Ots.Par) (q : List UInt8) (k : Nat) : List Nat := (List.range k).map fun i => Ots.digit q i o.w
theorem sofar_length (o : Ots.Par) (q : List UInt8) (k : Nat) : (sofar o q k).length = k := by simp [sofar]
theorem sofar_next (o : Ots.Par) (q : List UInt8) (k : Nat) : sofar o q (k + 1) = sofar o q k ++ [Ots.digit q k o.w] := by simp [sofar, List.range_succ]

/-- The list, filled so far. -/
def filled (o : Ots.Par) (q : List UInt8) (k : Nat) : List Nat := sofar o q k ++ List.replicate (o.p - k) 0
theorem filled_at (o : Ots.Par) (q : List UInt8) (k : Nat) (h : k < o.p) : (filled o q k)[k]? = some 0 := by
  unfold filled
  rw [List.getElem?_append_right (by rw [sofar_length]; exact Nat.le_refl _), sofar_length, Nat.sub_self]
  obtain ⟨n, hn⟩ : ∃ n, o.p - k = n + 1 := ⟨o.p - k - 1, by omega⟩
  rw [hn]
  rfl
theorem filled_set (o : Ots.Par) (q : List UInt8) (k : Nat) (h : k < o.p) : (filled o q k).set k (Ots.digit q k o.w) = filled o q (k + 1) := by
  unfold filled
  rw [List.set_append_right _ _ (by rw [sofar_length]; exact Nat.le_refl _), sofar_length, Nat.sub_self, sofar_next]
  obtain ⟨n, hn⟩ : ∃ n, o.p - k = n + 1 := ⟨o.p - k - 1, by omega⟩
  have h1 : o.p - (k + 1) = n := by omega
  rw [hn, h1, List.append_assoc]
  rfl
theorem filled_set_at (o : Ots.Par) (q : List UInt8) (k : Nat) : (filled o q (k + 1))[k]? = some (Ots.digit q k o.w) := by
  unfold filled
  rw [sofar_next, List.append_assoc, List.getElem?_append_right (by rw [sofar_length]; exact Nat.le_refl _), sofar_length, Nat.sub_self]
  rfl

/-- A list, filled up with zeros. -/
def fill (xs : List Nat) (p : Nat) : List Nat := xs ++ List.replicate (p - xs.length) 0
theorem fill_at (xs : List Nat) (p k : Nat) (hk : xs.length = k) (h : k < p) : (fill xs p)[k]? = some 0 := by
  subst hk
  unfold fill
  rw [List.getElem?_append_right (Nat.le_refl _), Nat.sub_self]
  obtain ⟨n, hn⟩ : ∃ n, p - xs.length = n + 1 := ⟨p - xs.length - 1, by omega⟩
  rw [hn]
  rfl
theorem fill_set (xs : List Nat) (p k d : Nat) (hk : xs.length = k) (h : k < p) : (fill xs p).set k d = fill (xs ++ [d]) p := by
  subst hk
  unfold fill
  rw [List.set_append_right _ _ (Nat.le_refl _), Nat.sub_self]
  obtain ⟨n, hn⟩ : ∃ n, p - xs.length = n + 1 := ⟨p - xs.length - 1, by omega⟩
  have h1 : p - (xs ++ [d]).length = n := by simp; omega
  rw [hn, h1, List.append_assoc]
  rfl
/-- The digits, then those of the rest so far. -/
def chk (o : Ots.Par) (q : List UInt8) (m : Nat) (c : List UInt8) (j : Nat) : List Nat := sofar o q m ++ (List.range j).map fun i => Ots.digit c i o.w
theorem chk_length (o : Ots.Par) (q : List UInt8) (m : Nat) (c : List UInt8) (j : Nat) : (chk o q m c j).length = m + j := by simp [chk, sofar_length]
theorem chk_next (o : Ots.Par) (q : List UInt8) (m : Nat) (c : List UInt8) (j : Nat) : chk o q m c (j + 1) = chk o q m c j ++ [Ots.digit c j o.w] := by simp [chk, List.range_succ]
theorem chk_zero (o : Ots.Par) (q : List UInt8) (m : Nat) (c : List UInt8) : fill (chk o q m c 0) o.p = filled o q m := by simp [chk, fill, filled, sofar_length]
theorem chk_all (o : Ots.Par) (q : List UInt8) (m : Nat) (hm : 256 / o.w = m) (hp : m ≤ o.p) : fill (chk o q m (beL 2 (Ots.left o (sofar o q m) * 2 ^ o.ls)) (o.p - m)) o.p = Ots.digitsOf o q := by
  have h0 : o.p - (m + (o.p - m)) = 0 := by omega
  unfold fill
  rw [chk_length, h0, List.replicate_zero, List.append_nil]
  subst hm
  rfl

theorem left_next (o : Ots.Par) (q : List UInt8) (k : Nat) : Ots.left o (sofar o q (k + 1)) = Ots.left o (sofar o q k) + (o.top - Ots.digit q k o.w) := by
  unfold Ots.left
  rw [sofar_next, List.map_append, List.sum_append]
  simp

theorem digit_top (o : Ots.Par) (q : List UInt8) (k : Nat) : Ots.digit q k o.w ≤ o.top := by
  unfold Ots.digit Ots.Par.top
  have h0 : 0 < 2 ^ o.w := Nat.pow_pos (by decide)
  have h := Nat.mod_lt ((q.getD (k * o.w / 8) 0).toNat / 2 ^ (8 - o.w - k * o.w % 8)) h0
  omega

theorem left_le (o : Ots.Par) (q : List UInt8) (k : Nat) (h : o.top ≤ 255) : Ots.left o (sofar o q k) ≤ 255 * k := by
  induction k with
  | zero => exact Nat.le_refl _
  | succ k ih =>
    rw [left_next]
    omega

set_option maxHeartbeats 1000000 in
theorem digits_any (o : Ots.Par) (m : Nat) (ho : ParOk o m) (head salt msg : ByteArray) (w : World) (hh : head.size ≤ 1000) (hs : salt.size ≤ 1000) (hm : msg.size ≤ 1000000) :
    Calls Tryz.prog 64 #[.agg (parC o), .string head, .string salt, .string msg] w fun e w' => ∃ g, e = .returned (.slice (some ⟨g, 0, none⟩) o.p o.p) ∧ w.heap.size ≤ g ∧
      Holds w' g 3 (nums (Ots.digits o head.data.toList salt.data.toList msg.data.toList)) ∧ Below w.heap.size w w' := by
  obtain ⟨q, hq⟩ : ∃ q, Sha.sha (head.data.toList ++ [0x81, 0x81] ++ salt.data.toList ++ msg.data.toList) = q := ⟨_, rfl⟩
  have hq32 : q.length = 32 := by rw [← hq]; exact sha_len32 _
  have hdg : Ots.digits o head.data.toList salt.data.toList msg.data.toList = Ots.digitsOf o q := by unfold Ots.digits; rw [hq]
  rw [hdg]
  have hjq := hid ((congrArg Sha.sha (joinS_msg head salt msg)).trans hq)
  clear hq hdg
  have hdq := hid (fun (i : Nat) (hi : i < m) W => digit_any o (txt q) i (by rw [txt_size, hq32]; exact ho.fst i hi) W)
  have hd2 := hid (fun (n i : Nat) (hi : i < o.p - m) W => digit_any o (be 2 n) i (by rw [be_size]; exact ho.snd i hi) W)
  have hst := hid (fun W => Steps_any o ho.w8 W)
  obtain ⟨D, hD⟩ : ∃ D, Ots.digitsOf o q = D := ⟨_, rfl⟩
  rw [hD]
  have hD' := hid hD
  have ho' := hid ho
  have hp100 := ho.p100
  have hw1 := ho.w1
  have hw8 := ho.w8
  have hmp := ho.mp
  have htop : o.top ≤ 255 := by
    have := Nat.pow_le_pow_right (n := 2) (by omega) hw8
    unfold Ots.Par.top
    omega
  clear hD ho
  obtain ⟨W1, hW1⟩ : ∃ W1, w.alloc (.cells (parC o) 54) = W1 := ⟨_, rfl⟩
  have hO1 : Holds W1 w.heap.size 54 (parC o).toList := by rw [← hW1]; exact Holds.new w _ _
  have hb1 : Below w.heap.size w W1 := by rw [← hW1]; exact (Below.refl _ _).alloc (Nat.le_refl _) _
  have hs1 : W1.heap.size = w.heap.size + 1 := by rw [← hW1]; simp
  have hW1' := hid hW1
  have hO1' := hid hO1
  have hb1' := hid hb1
  have hs1' := hid hs1
  clear hW1 hO1 hb1 hs1
  have hpc : parC o = #[.int .i64 (o.w : Int), .int .i64 (o.p : Int), .int .i64 (o.ls : Int)] := rfl
  rw [hpc] at hdq hd2 hst hW1' ⊢
  clear hpc
  obtain ⟨i0, hi0, hz0, hz1, hz2⟩ := info_parts Tryz.infoIntD
  have hq1 : (256 : Int) / (o.w : Int) = (m : Int) := by rw [← ho'.out.m0]; rfl
  have hq2 : (256 : Int).tdiv (o.w : Int) = (m : Int) := by rw [← ho'.out.m0]; rfl
  have hw0 : ¬ (o.w : Int) = 0 := by omega
  go_enter Tryz.func64, Tryz.ntmps64
  go_wp2_with ((with_reducible refine at_slot (some 4) ?_); refine wpList_run rfl (.pointer (some ⟨w.heap.size, 0, none⟩)) (w.alloc (.cells #[.int .i64 (o.w : Int), .int .i64 (o.p : Int), .int .i64 (o.ls : Int)] 54)) (by kernel_rfl) ?_; rw [hW1'.out])
  refine (U16_any 33153 _).mono ?_
  rintro e W2 ⟨rfl, hb2⟩
  have hO2 := hid (hO1'.out.below hb2 hO1'.out.lt)
  have hB2 := hid (hb1'.out.trans (hb2.mono hb1'.out.size))
  have hs2 : w.heap.size + 1 ≤ W2.heap.size := by have := hb2.size; rw [hs1'.out] at this; exact this
  clear hb2
  go_wp2_with fail
  refine (hash4 head (be 2 33153) salt msg W2 _ _ rfl (by rw [be_size]; omega)).mono ?_
  rintro e W3 ⟨rfl, hb3⟩
  rw [hjq.out]
  have hO3 := hid (hO2.out.below hb3 hO2.out.lt)
  have hB3 := hid (hB2.out.trans (hb3.mono hB2.out.size))
  have hs3 : w.heap.size + 1 ≤ W3.heap.size := by have := hb3.size; omega
  clear hb3
  unfold hv
  rename_i hK1
  refine hK1 _ _ ?_
  clear hK1
  have hsz := hv_size q hq32
  have h1c := all_oneCell_toArray (byteCells_one q)
  have hth := hv_there W3 q hq32
  go_wp2_with (first
    | ((with_reducible refine at_slot (some 9) ?_); refine wpList_run rfl (.pointer (some ⟨W3.heap.size, 0, none⟩)) (W3.alloc (.cells z32 60)) (by kernel_rfl) ?_)
    | ((with_reducible refine at_slot none ?_); refine wpList_store_mid rfl 60 (.tmp 9) (.tmp 21) rfl W3.heap.size 0 (byteCells q).toArray rfl rfl (by exact hth) (by exact hsz) (by exact h1c) ?_; generalize hW4 : World.setCells _ _ _ _ = W4
       obtain ⟨hQ4, hb4⟩ := hv_new q hq32 hW4
       have hO4 := hid (hO3.out.below hb4 hO3.out.lt)
       have hc4 := hO4.out.cell 1
       have hc4' : W4.cell? ⟨w.heap.size, 1, none⟩ = some (.int .i64 (o.p : Int)) := hc4
       clear hc4)
    | ((with_reducible refine at_slot (some 24) ?_); refine wpList_make_block rfl _ _ 116 rfl 3 i0 (.int .i64 0) Tryz.underlying116 hi0 hz0 hz1 rfl (by omega) _ o.p rfl rfl rfl (by omega) ?_; generalize hW5 : W4.alloc _ = W5
       have hA5 : Holds W5 W4.heap.size 3 (nums (List.replicate o.p 0)) := by
         rw [← hW5]
         have e : nums (List.replicate o.p 0) = List.replicate o.p (.int .i64 0) := by unfold nums; rw [List.map_replicate]; rfl
         rw [e]
         exact Holds.new W4 _ _
       have hb5 : Below W4.heap.size W4 W5 := by rw [← hW5]; exact (Below.refl _ _).alloc (Nat.le_refl _) _
       have hB4 := hB3.out.trans (hb4.mono hB3.out.size)
       have hQ4s := hQ4.lt
       have hG : Dgs w W5 o W3.heap.size W4.heap.size q (filled o q 0) := ⟨hO4.out.below hb5 hO4.out.lt, hQ4.below hb5 hQ4.lt, hA5, by omega, hQ4s, hB4.trans (hb5.mono hB4.size)⟩
       have hG' := hid hG
       have hc5 := hG.cells.1
       clear hA5 hb5 hB4 hQ4s hG hc4' hO4 hb4 hQ4 hW4 hW5))
  generalize W3.heap.size = gQ at *
  generalize W4.heap.size = gA at *
  go_loopw [28, 11] (fun i s wr => ∃ k : Nat, k ≤ m ∧ i = .int .i64 (k : Int) ∧ s = .int .i64 (Ots.left o (sofar o q k) : Int) ∧ Dgs w wr o gQ gA q (filled o q k)) (fun i _ _ => m - (intOf i).toNat)
  case atStart => exact ⟨0, Nat.zero_le _, rfl, rfl, hG'.out⟩
  case round =>
    obtain ⟨k, hk, rfl, rfl, hG⟩ := hrel
    by_cases hlt : k < m
    · have hkm : (k : Int) < (m : Int) := by omega
      have hkp : (k : Int) < (o.p : Int) := by omega
      have hkp' : k < o.p := by omega
      have hk0 : (0 : Int) ≤ (k : Int) := by omega
      obtain ⟨c0, c1, c2⟩ := hG.drew.cells
      have hcv := hv_text q hq32 wr.drew gQ hG.drew.q
      have hGd := hid hG.drew
      have hnum := hid (fun (w' : World) (h : Dgs w w' o gQ gA q (filled o q k)) => h.num (filled_at o q k hkp'))
      have hset := hid (filled_set o q k hkp')
      have hget := hid (filled_set_at o q k)
      have hsum := hid (left_next o q k)
      have hdt := digit_top o q k
      have hll := left_le o q k htop
      have hm100 : m ≤ 100 := by omega
      have hdk := hid (fun W => hdq.out k hlt W)
      clear hG
      rw [txt_list] at hdk
      generalize Ots.digit q k o.w = d at *
      generalize Ots.left o (sofar o q k) = S at *
      go_wp2_with fail
      go_region_with (first
        | (go_at_call 90; refine (hdk.out _).mono ?_; rintro e w' ⟨rfl, hb⟩; have hG7 := hid (hGd.out.below hb); have hn7 := hnum.out _ hG7.out; have hn7a := hn7.1; have hn7b := hn7.2))
      all_goals
        rename_i hG7 hn7 hn7a hn7b
        have hG8 := hG7.out.set k d
        rw [hset.out] at hG8
        clear hn7 hn7a hn7b
        generalize World.setCell _ _ _ = W8 at *
        obtain ⟨e0, e1, e2⟩ := hG8.drew.cells
        have hn8 := (hG8.drew.num hget.out).1
        have hG8d := hid hG8.drew
        have s1 := IntWalk.i64_in ((o.top : Int) - (d : Int)) (by omega)
        have s2 := IntWalk.i64_in ((S : Int) + ((o.top : Int) - (d : Int))) (by omega)
        clear hG8
        go_wp2_with fail
        go_region_with (first
          | (go_at_call 69; refine (hst.out _).mono ?_; rintro e w' ⟨rfl, hb⟩; have hG9 := hid (hG8d.out.below hb); have hn9 := (hG9.out.num hget.out).1))
        all_goals
          rename_i hG9 hn9
          clear hn9
          go_wp2_with fail
          go_roundw
          case rel => exact ⟨k + 1, by omega, by go_num, by rw [hsum.out]; exact congrArg (Value.int .i64) (by omega), hG9.out⟩
          case measure => simp [intOf]; omega
    · obtain rfl : k = m := by omega
      obtain ⟨c0, c1, c2⟩ := hG.cells
      have hll := left_le o q k htop
      have hk0 : (0 : Int) ≤ (k : Int) := by omega
      have hl4 := ho'.out.l4
      have h2p : 2 ^ o.ls ≤ 16 := Nat.pow_le_pow_right (n := 2) (by omega) hl4
      have hmul : Ots.left o (sofar o q k) * 2 ^ o.ls ≤ 25500 * 16 := Nat.mul_le_mul (by omega) h2p
      have hall := chk_all o q k ho'.out.m0 hmp
      have hG0 := hid hG
      clear hG
      generalize hS : Ots.left o (sofar o q k) = S at *
      have hshl := IntWalk.i64_in ((S : Int) * 2 ^ o.ls) (by have e : ((S * 2 ^ o.ls : Nat) : Int) = (S : Int) * 2 ^ o.ls := by rw [Int.natCast_mul, Int.natCast_pow]; rfl
                                                             omega)
      go_wp2_with fail
      have hcast : (S : Int) * 2 ^ o.ls = ((S * 2 ^ o.ls : Nat) : Int) := by
        rw [Int.natCast_mul, Int.natCast_pow]
        rfl
      rw [hcast]
      refine (U16_any (S * 2 ^ o.ls) _).mono ?_
      rintro e W8 ⟨rfl, hb8⟩
      rw [hD'.out] at hall
      have hall' := hid hall
      clear hall
      generalize S * 2 ^ o.ls = N at *
      have hG8 := hid (hG0.out.below hb8)
      clear hb8 hcast hshl
      go_wp2_with fail
      go_loopw [15] (fun i wr => ∃ j : Nat, j ≤ o.p - k ∧ i = .int .i64 ((k + j : Nat) : Int) ∧ Dgs w wr o gQ gA q (fill (chk o q k (beL 2 N) j) o.p)) (fun i _ => o.p - (intOf i).toNat)
      case atStart => exact ⟨0, Nat.zero_le _, rfl, by rw [chk_zero]; exact hG8.out⟩
      case round =>
        obtain ⟨j, hj, rfl, hG⟩ := hrel
        obtain ⟨c0, c1, c2⟩ := hG.cells
        by_cases hlt2 : k + j < o.p
        · have hlt' : ((k + j : Nat) : Int) < (o.p : Int) := by omega
          have hsub := IntWalk.i64_in (((k + j : Nat) : Int) - (k : Int)) (by omega)
          have hsub2 : ((k + j : Nat) : Int) - (k : Int) = (j : Int) := by omega
          have hadd := IntWalk.i64_in (((k + j : Nat) : Int) + 1) (by omega)
          have hset := hid (fun d => fill_set (chk o q k (beL 2 N) j) o.p (k + j) d (chk_length _ _ _ _ _) hlt2)
          have hnx := hid (chk_next o q k (beL 2 N) j)
          have hat := hid (fill_at (chk o q k (beL 2 N) j) o.p (k + j) (chk_length _ _ _ _ _) hlt2)
          have hdd := hid (fun W => hd2.out N j (by omega) W)
          have hGd := hid hG
          have he : (be 2 N).data.toList = beL 2 N := rfl
          rw [he] at hdd
          clear hG
          generalize ht : k + j = t at *
          generalize Ots.digit (beL 2 N) j o.w = d at *
          go_wp2_with fail
          refine (hdd.out _).mono ?_
          rintro e W9 ⟨rfl, hb9⟩
          have hG9 := hid (hGd.out.below hb9)
          have hn9 := hG9.out.num hat.out
          have hn9a := hn9.1
          have hn9b := hn9.2
          have hG10 := hid (hG9.out.set t d)
          have ht0 : (0 : Int) ≤ (t : Int) := by omega
          clear hn9 hb9
          rw [hset.out, ← hnx.out] at hG10
          go_wp2_with fail
          generalize World.setCell _ _ _ = W10 at *
          go_roundw
          case rel => exact ⟨j + 1, by omega, by go_num, hG10.out⟩
          case measure => simp [intOf]; omega
        · obtain rfl : j = o.p - k := by omega
          have e1 : k + (o.p - k) = o.p := by omega
          rw [hall'.out] at hG
          have hno : ¬ ((o.p : Nat) : Int) < (o.p : Int) := by omega
          rw [e1]
          have hGd := hid hG
          clear hG
          go_wp2_with fail
          go_ret
          exact ⟨gA, rfl, by have := hGd.out.la; have := hGd.out.lq; omega, hGd.out.a, hGd.out.b⟩

end Go.Proofs.YtmfajekfipfjpaaGreat
namespace Go.Proofs.YtmfajekfipfjpaaGreat
open Go.RowKit
open Go.Lib (strCells strCells_length strCells_oneCell)
attribute [local irreducible] Sha.compress Sha.blocks Sha.sha Sha.pad

/-- The kind, where a key may be asked for. -/
def otsGood (kind q : Int) (id seed : ByteArray) : Option Ots.Par := match Ots.par kind with
  | some o => if Ots.may id.size q = true ∧ seed.size = 32 then some o else none
  | none => none

theorem par_new {W W7 : World} (cs : Array Value) (hc : cs.size = 3) (h : (W.alloc (.cells noC 54)).setCells W.heap.size 0 cs.toList = W7) : Holds W7 W.heap.size 54 cs.toList ∧ Below W.heap.size W W7 := by
  have hH := Holds.new W 54 noC
  have hl : cs.toList.length = 3 := by rw [Array.length_toList, hc]
  have hp := hH.put 0 cs.toList (by rw [hl]; decide)
  rw [put_all _ _ (by rw [hl]; decide), h] at hp
  have hb : Below W.heap.size W (W.alloc (.cells noC 54)) := (Below.refl _ _).alloc (Nat.le_refl _) _
  refine ⟨hp, ?_⟩
  rw [← h]
  exact below_setCells hb _ _ _ (Nat.le_refl _)

theorem par_there (W : World) (cs : Array Value) (hc : cs.size = 3) : (W.alloc (.cells noC 54)).there W.heap.size 0 cs.size := Holds.there (Holds.new W 54 noC) 0 _ (by rw [hc]; decide)

theorem par_size (cs : Array Value) (hc : cs.size = 3) : (Tryz.prog.info? 54).map (·.size) = some cs.size := by rw [hc]; exact Tryz.sizeOts

end Go.Proofs.YtmfajekfipfjpaaGreat
namespace Go.Proofs.YtmfajekfipfjpaaGreat
open Go.RowKit
open Go.Lib (strCells strCells_length strCells_oneCell)
attribute [local irreducible] Sha.compress Sha.blocks Sha.sha Sha.pad

/-- What lies where while the chains are made. -/
structure Pubs (w wr : World) (o : Ots.Par) (gO gE : Nat) (xs : List (List UInt8)) : Prop where
  ho : Holds wr gO 54 (parC o).toList
  r : Holds wr w.heap.size 60 z32.toList
  e : Ends wr gE o.p xs
  lo : w.heap.size < gO
  le : gO < gE
  b : Below w.heap.size w wr

theorem Pubs.below {w wr w' : World} {o : Ots.Par} {gO gE : Nat} {xs : List (List UInt8)} (h : Pubs w wr o gO gE xs) (hb : Below wr.heap.size wr w') : Pubs w w' o gO gE xs :=
  ⟨h.ho.below hb h.ho.lt, h.r.below hb h.r.lt, h.e.below hb h.e.at_.lt, h.lo, h.le, h.b.trans (hb.mono h.b.size)⟩

theorem Pubs.drew {w wr : World} {o : Ots.Par} {gO gE : Nat} {xs : List (List UInt8)} (h : Pubs w wr o gO gE xs) : Pubs w wr.drew o gO gE xs := h.below (Below.refl _ _).drew

theorem Pubs.there {w wr : World} {o : Ots.Par} {gO gE : Nat} {xs : List (List UInt8)} (h : Pubs w wr o gO gE xs) {k : Nat} (hk : k < o.p) (x : List UInt8) (hx : x.length = 32) : wr.there gE (k * 32) (byteCells x).toArray.size := by
  have hl := hashCells_length xs h.e.all
  have hn := h.e.len
  refine h.e.at_.there _ _ ?_
  rw [List.size_toArray, byteCells, List.length_map, hx, hl]
  omega

theorem Pubs.set {w wr : World} {o : Ots.Par} {gO gE : Nat} {xs : List (List UInt8)} (h : Pubs w wr o gO gE xs) {k : Nat} (hk : k < o.p) (x : List UInt8) (hx : x.length = 32) : Pubs w (wr.setCells gE (k * 32) (byteCells x)) o gO gE (xs.set k x) := by
  have h1 := h.lo
  have h2 := h.le
  have hl := hashCells_length xs h.e.all
  have hn := h.e.len
  refine ⟨Holds.fars h.ho _ _ _ (by omega), Holds.fars h.r _ _ _ (by omega), ⟨by rw [List.length_set, hn], ?_, ?_⟩, h1, h2, below_setCells h.b _ _ _ (by omega)⟩
  · intro y hy
    rcases List.mem_or_eq_of_mem_set hy with hy | rfl
    · exact h.e.all y hy
    · exact hx
  · rw [hashCells_set xs h.e.all k x hx (by omega)]
    exact h.e.at_.put _ _ (by rw [byteCells, List.length_map, hx, hl]; omega)

theorem Pubs.cells {w wr : World} {o : Ots.Par} {gO gE : Nat} {xs : List (List UInt8)} (h : Pubs w wr o gO gE xs) :
    wr.cell? ⟨gO, 0, none⟩ = some (.int .i64 (o.w : Int)) ∧ wr.cell? ⟨gO, 1, none⟩ = some (.int .i64 (o.p : Int)) ∧ wr.cell? ⟨gO, 2, none⟩ = some (.int .i64 (o.ls : Int)) :=
  ⟨h.ho.cell 0, h.ho.cell 1, h.ho.cell 2⟩

/-- The first k by a function, the others zero. -/
def fillH (f : Nat → List UInt8) (p k : Nat) : List (List UInt8) := (List.range k).map f ++ List.replicate (p - k) h0
theorem fillH_zero (f : Nat → List UInt8) (p : Nat) : fillH f p 0 = List.replicate p h0 := by simp [fillH]
theorem fillH_all (f : Nat → List UInt8) (p : Nat) : fillH f p p = (List.range p).map f := by simp [fillH]
theorem fillH_set (f : Nat → List UInt8) (p k : Nat) (h : k < p) : (fillH f p k).set k (f k) = fillH f p (k + 1) := by
  have hl : ((List.range k).map f).length = k := by simp
  unfold fillH
  rw [List.set_append_right _ _ (by rw [hl]; exact Nat.le_refl _), hl, Nat.sub_self, List.range_succ, List.map_append]
  obtain ⟨n, hn⟩ : ∃ n, p - k = n + 1 := ⟨p - k - 1, by omega⟩
  have h1 : p - (k + 1) = n := by omega
  rw [hn, h1, List.append_assoc]
  rfl

end Go.Proofs.YtmfajekfipfjpaaGreat
namespace Go.Proofs.YtmfajekfipfjpaaGreat
open Go.RowKit
open Go.Lib (strCells strCells_length strCells_oneCell)
attribute [local irreducible] Sha.compress Sha.blocks Sha.sha Sha.pad

theorem head_list (id : ByteArray) (n : Nat) : (id ++ be 4 n).data.toList = Ots.head id.data.toList n := by
  rw [ByteArray.data_append, Array.toList_append]
  rfl

theorem good_parts {kind q : Int} {id seed : ByteArray} {o : Ots.Par} (h : otsGood kind q id seed = some o) : Ots.par kind = some o ∧ Ots.may id.size q = true ∧ seed.size = 32 := by
  unfold otsGood at h
  cases hp : Ots.par kind with
  | none => rw [hp] at h; cases h
  | some o' =>
    rw [hp] at h
    simp only at h
    split at h
    · cases h
      exact ⟨rfl, by assumption⟩
    · cases h

theorem may_parts {n : Nat} {q : Int} (h : Ots.may n q = true) : n = 16 ∧ ∃ k : Nat, q = (k : Int) ∧ k ≤ 4294967295 := by
  simp only [Ots.may, decide_eq_true_eq] at h
  exact ⟨h.1, q.toNat, by omega, by omega⟩

set_option maxHeartbeats 2000000 in
theorem Public_good (kind q : Int) (id seed : ByteArray) (o : Ots.Par) (hgood : otsGood kind q id seed = some o) (w : World) :
    Calls Tryz.prog 52 #[.int .i64 kind, .string id, .int .i64 q, .string seed] w fun e w' => e = .returned (.tuple #[hv (Ots.pub o (Ots.head id.data.toList q.toNat) seed.data.toList), .int .i64 0]) ∧ Below w.heap.size w w' := by
  obtain ⟨hpar, hm, hs32⟩ := good_parts hgood
  obtain ⟨hid16, n, rfl, hn⟩ := may_parts hm
  obtain ⟨m, ho⟩ := par_ok hpar
  have hans : parAns kind = .tuple #[.agg (parC o), .bool true] := by unfold parAns; rw [hpar]
  have hans' := hid hans
  have hd := hid (head_list id n)
  have hhs : (id ++ be 4 n).size = 20 := by rw [ByteArray.size_append, be_size, hid16]
  have hcat : id.size + (be 4 n).size ≤ 9223372036854775807 := by rw [be_size, hid16]; decide
  rw [Int.toNat_natCast]
  obtain ⟨hd2, hhd⟩ : ∃ t, Ots.head id.data.toList n = t := ⟨_, rfl⟩
  rw [hhd]
  rw [hhd] at hd
  obtain ⟨H, hH⟩ : ∃ H, id ++ be 4 n = H := ⟨_, rfl⟩
  rw [hH] at hd hhs
  have hH' := hid hH
  have hp100 := ho.p100
  have hw8 := ho.w8
  have htop : o.top ≤ 255 := by
    have := Nat.pow_le_pow_right (n := 2) (by omega) hw8
    unfold Ots.Par.top
    omega
  have hst := hid (fun W => Steps_any o ho.w8 W)
  have hsz := par_size (parC o) rfl
  have h1c : (parC o).all (·.oneCell') = true := by simp [parC, Value.oneCell']
  obtain ⟨f, hf⟩ : ∃ f : Nat → List UInt8, (fun i => Ots.steps hd2 i 0 o.top (Ots.priv hd2 i seed.data.toList)) = f := ⟨_, rfl⟩
  have hpub : Ots.pub o hd2 seed.data.toList = Ots.gather hd2 ((List.range o.p).map f) := by rw [← hf]; rfl
  have hwk : ∀ (i : Nat) W, Calls Tryz.prog 65 #[.string H, .int .i64 (i : Int), .int .i64 0, .int .i64 (o.top : Int), hv (Ots.priv hd2 i seed.data.toList)] W fun e w' => e = .returned (hv (f i)) ∧ Below W.heap.size W w' := fun i W => by
    have h := walk_any H i 0 o.top (Ots.priv hd2 i seed.data.toList) W (sha_len32 _) (by omega) (by omega) (by omega)
    rw [hd.out, Nat.sub_zero] at h
    rw [← hf]
    exact h
  have hpv : ∀ (i : Nat) W, Calls Tryz.prog 63 #[.string H, .int .i64 (i : Int), .string seed] W fun e w' => e = .returned (hv (Ots.priv hd2 i seed.data.toList)) ∧ Below W.heap.size W w' := fun i W => by
    have h := private_any H seed i W (by omega) (by omega)
    rw [hd.out] at h
    exact h
  have hf32 : ∀ i, (f i).length = 32 := fun i => by
    rw [← hf]
    exact steps_len _ _ _ _ (sha_len32 _) _
  have hga := hid (fun (g n c : Nat) (xs : List (List UInt8)) (w : World) (hE : Ends w g n xs) (hg : g < w.heap.size) (hn : n ≤ 100) => gather_any H g n c xs w hE hg hn (by omega))
  rw [hd.out] at hga
  rw [hpub]
  have hwk' := hid hwk
  have hpv' := hid hpv
  have hf32' := hid hf32
  obtain ⟨W1, hW1⟩ : ∃ W1, w.alloc (.cells z32 60) = W1 := ⟨_, rfl⟩
  have hH1 : Holds W1 w.heap.size 60 z32.toList := by rw [← hW1]; exact Holds.new w _ _
  have hb1 : Below w.heap.size w W1 := by rw [← hW1]; exact (Below.refl _ _).alloc (Nat.le_refl _) _
  have hs1 : W1.heap.size = w.heap.size + 1 := by rw [← hW1]; simp
  have hW1' := hid hW1
  have hH1' := hid hH1
  have hb1' := hid hb1
  have hs1' := hid hs1
  clear hW1 hH1 hb1 hs1 hans hgood hpar hwk hpv hf32 hf hpub hhd hd ho
  go_enter Tryz.func52, Tryz.ntmps52
  go_wp2_with ((with_reducible refine at_slot (some 8) ?_); refine wpList_run rfl (.pointer (some ⟨w.heap.size, 0, none⟩)) (w.alloc (.cells z32 60)) (by kernel_rfl) ?_; rw [hW1'.out])
  refine (OtsOf_any kind _).mono ?_
  rintro e W2 ⟨rfl, hb2⟩
  rw [hans'.out]
  have hthere := par_there W2 (parC o) rfl
  rename_i hK1
  refine hK1 _ _ ?_
  clear hK1
  have hH2 := hid (hH1'.out.below hb2 hH1'.out.lt)
  have hB2 := hid (hb1'.out.trans (hb2.mono hb1'.out.size))
  have hs2 : w.heap.size < W2.heap.size := by have := hb2.size; have := hs1'.out; omega
  clear hb2
  have hs0 : ((seed.size : Int) != 32) = false := by simp; omega
  have hs0' : ((seed.size : Int) == 32) = true := by simp; omega
  go_wp2_with (first
    | ((with_reducible refine at_slot (some 10) ?_); refine wpList_run rfl (.pointer (some ⟨W2.heap.size, 0, none⟩)) (W2.alloc (.cells noC 54)) (by kernel_rfl) ?_)
    | ((with_reducible refine at_slot none ?_); refine wpList_store_mid rfl 54 (.tmp 10) (.tmp 18) rfl W2.heap.size 0 (parC o) rfl rfl (by exact hthere) (by exact hsz) (by exact h1c) ?_; generalize hW7 : World.setCells _ _ _ _ = W7
       have hP7 := par_new (parC o) rfl hW7
       have hO7 := hid hP7.1
       have hH7 := hid (hH2.out.below hP7.2 hH2.out.lt)
       have hB7 := hid (hB2.out.trans (hP7.2.mono hB2.out.size))
       clear hP7 hW7 hthere)
    | (go_at_call 62; refine (nameMay_any id _ _).mono ?_; rintro e w' ⟨rfl, rfl⟩; rw [hm])
    | (go_at_call 15; refine (U32_any n _).mono ?_; rintro e W8 ⟨rfl, hb8⟩
       have hO8 := hid (hO7.out.below hb8 hO7.out.lt)
       have hH8 := hid (hH7.out.below hb8 hH7.out.lt)
       have hB8 := hid (hB7.out.trans (hb8.mono hB7.out.size))
       have hc8 : W8.cell? ⟨W2.heap.size, 1, none⟩ = some (.int .i64 (o.p : Int)) := hO8.out.cell 1
       have hlt8 := hO8.out.lt
       clear hb8)
    | ((with_reducible refine at_slot (some 40) ?_); refine wpList_make_hashes rfl _ _ rfl _ o.p rfl rfl rfl (by omega) ?_; generalize hW9 : World.alloc _ _ = W9))
  have hP9 : Pubs w W9 o W2.heap.size W8.heap.size (fillH f o.p 0) := by
    have hb9 : Below W8.heap.size W8 W9 := by rw [← hW9]; exact (Below.refl _ _).alloc (Nat.le_refl _) _
    refine ⟨hO8.out.below hb9 hO8.out.lt, hH8.out.below hb9 hH8.out.lt, ⟨by simp [fillH], ?_, ?_⟩, hs2, hlt8, hB8.out.trans (hb9.mono hB8.out.size)⟩
    · rw [fillH_zero]
      intro x hx
      rw [List.eq_of_mem_replicate hx]
      exact h0_length
    · rw [fillH_zero, ← hW9]
      exact Holds.new W8 _ _
  have hP9' := hid hP9
  clear hP9 hW9
  generalize W2.heap.size = gO at *
  generalize W8.heap.size = gE at *
  go_loopw [43] (fun i wr => ∃ k : Nat, k ≤ o.p ∧ i = .int .i64 (k : Int) ∧ Pubs w wr o gO gE (fillH f o.p k)) (fun i _ => o.p - (intOf i).toNat)
  case atStart => exact ⟨0, Nat.zero_le _, rfl, hP9'.out⟩
  case round =>
    obtain ⟨k, hk, rfl, hP⟩ := hrel
    by_cases hlt : k < o.p
    · have hkp : (k : Int) < (o.p : Int) := by omega
      have hk0 : (0 : Int) ≤ (k : Int) := by omega
      obtain ⟨c0, c1, c2⟩ := hP.cells
      have hset := hid (fillH_set f o.p k hlt)
      have hfk := hf32'.out k
      have hsf := hv_size (f k) hfk
      have h1f := all_oneCell_toArray (byteCells_one (f k))
      have hP' := hid hP
      have hwk := hid (hwk'.out k)
      have hpv := hid (hpv'.out k)
      have hset2 := hid (fun (W : World) (h : Pubs w W o gO gE (fillH f o.p k)) => h.set hlt (f k) hfk)
      have hthr := hid (fun (W : World) (h : Pubs w W o gO gE (fillH f o.p k)) => h.there hlt (f k) hfk)
      clear hP
      rw [hset.out] at hset2
      unfold hv at hwk hpv
      generalize f k = fk at *
      go_wp2_with fail
      refine (hst.out _).mono ?_
      rintro e W3 ⟨rfl, hb3⟩
      have hP3 := hid (hP'.out.below hb3)
      clear hb3
      go_wp2_with fail
      refine (hpv.out _).mono ?_
      rintro e W4 ⟨rfl, hb4⟩
      have hP4 := hid (hP3.out.below hb4)
      clear hb4
      go_wp2_with fail
      refine (hwk.out _).mono ?_
      rintro e W5 ⟨rfl, hb5⟩
      have hP5 := hid (hP4.out.below hb5)
      have hth5 := hthr.out _ hP5.out
      have hP6 := hset2.out _ hP5.out
      clear hb5
      have hP6' := hid hP6
      clear hP6
      rename_i hK1
      refine hK1 _ _ ?_
      clear hK1
      go_wp2_with (first
        | ((with_reducible refine at_slot none ?_); refine wpList_store_mid rfl 60 (.tmp 57) (.tmp 56) rfl gE (k * 32) (byteCells fk).toArray rfl rfl (by exact hth5) (by exact hsf) (by exact h1f) ?_; generalize hW6 : World.setCells _ _ _ _ = W6; rw [hW6] at hP6'))
      go_roundw
      case rel => exact ⟨k + 1, by omega, by go_num, hP6'.out⟩
      case measure => simp [intOf]; omega
    · obtain rfl : k = o.p := by omega
      rw [fillH_all] at hP
      have hrl : ((List.range o.p).map f).length = o.p := by simp
      have hga2 := hid (hga.out gE o.p o.p ((List.range o.p).map f) wr hP.e hP.e.at_.lt hp100)
      have hgl : (Ots.gather hd2 ((List.range o.p).map f)).length = 32 := sha_len32 _
      have hP' := hid hP
      clear hP
      unfold hv at hga2
      generalize hout : Ots.gather hd2 ((List.range o.p).map f) = out at *
      have hsf := hv_size out hgl
      have h1f := all_oneCell_toArray (byteCells_one out)
      go_wp2_with fail
      refine (hga2.out).mono ?_
      rintro e W3 ⟨rfl, hb3⟩
      have hP3 := hid (hP'.out.below hb3)
      have hth3 := hv_put out (by decide) hP3.out.r hgl
      have hr4 := hid hth3.2
      have hth4 := hth3.1
      have hb4 := hid (below_setCells hP3.out.b w.heap.size 0 (byteCells out) (Nat.le_refl _))
      clear hb3 hth3
      rename_i hK1
      refine hK1 _ _ ?_
      clear hK1
      go_wp2_with (first
        | ((with_reducible refine at_slot none ?_); refine wpList_store_mid rfl 60 (.tmp 8) (.tmp 61) rfl w.heap.size 0 (byteCells out).toArray rfl rfl (by exact hth4) (by exact hsf) (by exact h1f) ?_; generalize hW6 : World.setCells _ _ _ _ = W6; rw [hW6] at hr4 hb4))
      exact bodyPost_ret (results_ct rfl _ _ w.heap.size 60 (byteCells out).toArray (0, 0) _ rfl hr4.out (.int .i64 0) rfl Tryz.underlying60 rfl (by exact hsf)) rfl ⟨by first | rfl | (unfold hv; rfl) | (unfold hv; rw [hout]), hb4.out⟩

end Go.Proofs.YtmfajekfipfjpaaGreat
