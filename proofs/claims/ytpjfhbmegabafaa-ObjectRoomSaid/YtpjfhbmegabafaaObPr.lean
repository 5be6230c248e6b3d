/- Layer 11, the program's side: a store in memory; New, Put, Get, Add, Len.
   Layer 11, the program's side: a store's Put, Get, Add, Len.
   Layer 11, the program's side: a store's Get, Len, Add.
   Layer 11, the program's side: a store's Add. -/
import Derived.Test.YtpjfhbmegabafaaObP
import Derived.Test.YtpjfhbmegabafaaAts
import Derived.Test.YtpjfhbmegabafaaLoadOn
import Derived.Test.YtpjfhbmegabafaaPlace
import Derived.Test.YtpjfhbmegabafaaFar
import Derived.Test.YtpjfhbmegabafaaHashE
namespace Go.Proofs.Ytpjfhbmegabafaa
open Go.RowKit
open Go.Lib (strCells strCells_length strCells_oneCell)
attribute [local irreducible] Sha.compress Sha.blocks Sha.sha Sha.pad

theorem gr_of {w w' : World} (h : Below w.heap.size w w') (row : Option Nat) : w.grownBy w' row := ⟨h.os, h.tape, h.output, h.size, fun k hk _ => h.block k hk⟩
theorem gr_trans {a b c : World} {row : Option Nat} (h : a.grownBy b row) (k : b.grownBy c row) : a.grownBy c row :=
  ⟨k.os.trans h.os, k.tape.trans h.tape, k.output.trans h.output, Nat.le_trans h.size k.size, fun i hi hr => (k.block i (Nat.lt_of_lt_of_le hi h.size) hr).trans (h.block i hi hr)⟩
theorem gr_up {a b c : World} {row : Option Nat} (h : Below b.heap.size b c) (k : a.grownBy b row) : a.grownBy c row := gr_trans k (gr_of h row)
theorem Holds.cO {w : World} {g : Nat} {t : TypeId} {cs : List Value} (h : Holds w g t cs) (j : Nat) (v : Value) (hv : cs[j]? = some v) : w.cell? ⟨g, j, none⟩ = some v := (h.cell j).trans hv
theorem Holds.anyO {w : World} {g : Nat} {t : TypeId} {cs : List Value} (h : Holds w g t cs) : ∀ j v, cs[j]? = some v → w.cell? ((⟨g, 0, none⟩ : Addr).add j) = some v := fun j v hv => by
  rw [show (⟨g, 0, none⟩ : Addr).add j = ⟨g, j, none⟩ from by unfold Addr.add; split <;> simp_all, h.cell]
  exact hv

/-- An object's cells. -/
structure ObC (cs : List Value) : Prop where
  len : cs.length = 33
  one : cs.toArray.all (·.oneCell') = true
  size : (Try.prog.info? 85).map (·.size) = some cs.toArray.size
  size' : (Try.prog.info? 85).map (·.size) = some cs.length
theorem ob_cells (l : List UInt8) (hl : l.length = 32) (d : ByteArray) : ObC (obCells (l, d)) := by
  have hlen : (obCells (l, d)).length = 33 := by unfold obCells; rw [List.length_append, byteCells, List.length_map, hl]; rfl
  have hinfo : (Try.prog.info? 85).map (·.size) = some 33 := by kernel_rfl
  refine ⟨hlen, ?_, by rw [List.size_toArray, hlen]; exact hinfo, by rw [hlen]; exact hinfo⟩
  refine all_oneCell_toArray (fun v hv => ?_)
  rcases List.mem_append.1 hv with h | h
  · exact byteCells_one l v h
  · rw [List.mem_singleton.1 h]; rfl
def zOb : List Value := obCells (List.replicate 32 0, ⟨#[]⟩)
theorem zOb_cells : ObC zOb := ob_cells _ rfl _
theorem ObC.there {cs : List Value} (h : ObC cs) (W : World) : (W.alloc (.cells zOb.toArray 85)).there W.heap.size 0 cs.toArray.size := (Holds.new W 85 zOb.toArray).there 0 _ (by rw [List.size_toArray, h.len]; exact Nat.le_refl 33)
theorem ObC.new {cs : List Value} (hc : ObC cs) {W W7 : World} (h : (W.alloc (.cells zOb.toArray 85)).setCells W.heap.size 0 cs = W7) : Holds W7 W.heap.size 85 cs ∧ Below W.heap.size W W7 := by
  have hH := Holds.new W 85 zOb.toArray
  have hb : Below W.heap.size W (W.alloc (.cells zOb.toArray 85)) := (Below.refl _ _).alloc (Nat.le_refl _) _
  have hl : cs.length = zOb.toArray.toList.length := by rw [hc.len]; rfl
  refine ⟨?_, below_put hb (Nat.le_refl _) h⟩
  have h1 := hH.put 0 cs (by rw [hl]; exact Nat.le_of_eq (Nat.zero_add _))
  rw [h, put_all _ _ hl] at h1
  exact h1

/-- A store in memory: its own block s, its map's b. -/
def StoreAt (w : World) (s b most : Nat) (m : Obs) : Prop := Holds w s 79 [.map (some b), .int .i64 (most : Int)] ∧ MapAt w b (m.map obEnc) ∧ ObOk m ∧ most ≤ 1024 ∧ m.length ≤ most
theorem StoreAt.below {w w' : World} {s b most B : Nat} {m : Obs} (h : StoreAt w s b most m) (hb : Below B w w') (h1 : s < B) (h2 : b < B) : StoreAt w' s b most m := ⟨h.1.below hb h1, h.2.1.below hb h2, h.2.2⟩
theorem StoreAt.on {w w' : World} {s b most : Nat} {m : Obs} (h : StoreAt w s b most m) (hb : Below w.heap.size w w') : StoreAt w' s b most m := h.below hb h.1.lt h.2.1.lt
theorem StoreAt.own {w : World} {s b most : Nat} {m : Obs} (h : StoreAt w s b most m) : Holds w s 79 [.map (some b), .int .i64 (most : Int)] := h.1
theorem StoreAt.ne {w : World} {s b most : Nat} {m : Obs} (h : StoreAt w s b most m) : s ≠ b := fun e => by
  obtain ⟨es, clock, hb, _⟩ := h.2.1
  have h1 := h.1
  unfold Holds at h1
  rw [e, hb] at h1
  cases h1
theorem StoreAt.far {w W : World} {s b most : Nat} {m : Obs} (h : StoreAt w s b most m) {g o : Nat} {vs : List Value} (h1 : s ≠ g) (h2 : b ≠ g) (e : w.setCells g o vs = W) : StoreAt W s b most m := by
  subst e
  exact ⟨h.1.fars g o vs h1, h.2.1.fars g o vs h2, h.2.2⟩
theorem obZero (w : World) : (zeroValue 85).run Try.prog w = .ok (.agg zOb.toArray) w := by kernel_rfl
theorem StoreAt.look {w : World} {s b most : Nat} {m : Obs} (h : StoreAt w s b most m) {k : List UInt8} (hk : k.length = 32) :
    (obGet m k = none → (Instr.lookup 75 (.map (some b)) (.agg (byteCells k).toArray) true).run Try.prog w = .ok (.tuple #[.agg zOb.toArray, .bool false]) w) ∧
      (∀ d, obGet m k = some d → (Instr.lookup 75 (.map (some b)) (.agg (byteCells k).toArray) true).run Try.prog w = .ok (.tuple #[.agg (obCells (k, d)).toArray, .bool true]) w) := by
  obtain ⟨kl, hkl⟩ := hash_key k hk
  have hl := h.2.1.look (P := Try.prog) true hash_keyed (obKeys h.2.2.1) Try.underlying75 (obZero w) hkl
  rcases hl with ⟨h1, h2⟩ | ⟨v, h1, h2⟩
  · exact ⟨fun _ => h1, fun d hd => by rw [mget_none.1 h2] at hd; cases hd⟩
  · obtain ⟨d, hd, rfl⟩ := mget_some h.2.2.1 h2
    refine ⟨fun hn => (by rw [hn] at hd; cases hd), fun d' hd' => ?_⟩
    rw [hd] at hd'
    cases hd'
    exact h1
theorem StoreAt.add {w : World} {s b most : Nat} {m : Obs} (h : StoreAt w s b most m) {d : ByteArray} (hn : obGet m (obHash d) = none) (hm : m.length < most) :
    ∃ w', (Instr.mapUpdate 75 (.map (some b)) (.agg (byteCells (obHash d)).toArray) (.agg (obCells (obHash d, d)).toArray)).run Try.prog w = .ok () w' ∧ StoreAt w' s b most (m ++ [(obHash d, d)]) ∧ w.grownBy w' (some b) ∧ w'.heap.size = w.heap.size ∧ ∀ i, i ≠ b → w'.heap[i]? = w.heap[i]? := by
  obtain ⟨kl, hkl⟩ := hash_key _ (obHash_len d)
  obtain ⟨w', h1, h2, h3, h4, h5⟩ := h.2.1.put (P := Try.prog) hash_keyed (obKeys h.2.2.1) Try.underlying75 hkl (mget_none.2 hn) (.agg (obCells (obHash d, d)).toArray)
  refine ⟨w', h1, ⟨(h4 s h.ne).trans h.1, ?_, h.2.2.1.add hn, h.2.2.2.1, by rw [List.length_append]; exact hm⟩, h5, h3, h4⟩
  rw [List.map_append]
  exact h2
theorem StoreAt.len {w : World} {s b most : Nat} {m : Obs} (h : StoreAt w s b most m) (ty : TypeId) : (Builtin.len_ #[75] ty #[.map (some b)]).run Try.prog w = .ok (.int .i64 (m.length : Int)) w := by
  have := h.2.1.len (P := Try.prog) Try.underlying75 ty
  rwa [List.length_map] at this

set_option maxRecDepth 100000 in
theorem obNew_no (most : Int) (h : ¬ (1 ≤ most ∧ most ≤ 1024)) (w : World) : Calls Try.prog 11 #[.int .i64 most] w fun e w' => e = .returned (.tuple #[.pointer none, .int .i64 1100]) ∧ w' = w := by
  by_cases h1 : most < 1
  · go_enter Try.func11, Try.ntmps11
    go_wp2
    go_ret2
    exact ⟨rfl, rfl⟩
  · have h2 : 1024 < most := by omega
    go_enter Try.func11, Try.ntmps11
    go_wp2
    go_ret2
    exact ⟨rfl, rfl⟩
set_option maxRecDepth 100000 in
theorem obNew_yes (most : Nat) (h1 : 1 ≤ most) (h2 : most ≤ 1024) (w : World) : Calls Try.prog 11 #[.int .i64 (most : Int)] w fun e w' => e = .returned (.tuple #[.pointer (some ⟨w.heap.size + 1, 0, none⟩), .int .i64 0]) ∧ StoreAt w' (w.heap.size + 1) w.heap.size most [] ∧ Below w.heap.size w w' := by
  have hmm := @run_makeMap Try.prog
  have h3 : ¬ (most : Int) < 1 := by omega
  have h4 : ¬ (1024 : Int) < (most : Int) := by omega
  have hM := MapAt.new w
  have hs : (w.alloc (.map #[] 0)).heap.size = w.heap.size + 1 := by simp
  have hH := Holds.new (w.alloc (.map #[] 0)) 79 #[.map (some w.heap.size), .int .i64 (most : Int)]
  rw [hs] at hH
  have hA := hid (show StoreAt ((w.alloc (.map #[] 0)).alloc (.cells #[.map (some w.heap.size), .int .i64 (most : Int)] 79)) (w.heap.size + 1) w.heap.size most [] from ⟨hH, hM.alloc _, ObOk.nil, h2, Nat.zero_le _⟩)
  have hB := hid (show Below w.heap.size w ((w.alloc (.map #[] 0)).alloc (.cells #[.map (some w.heap.size), .int .i64 (most : Int)] 79)) from ((Below.refl _ _).alloc (Nat.le_refl _) _).alloc (by simp) _)
  clear hM hH hs
  go_enter Try.func11, Try.ntmps11
  go_wp2
  go_ret2
  exact ⟨by simp, hA.out, hB.out⟩

theorem tag1_any (t : Nat) (ht : t ≤ 4) (d : ByteArray) (hd : d.size ≤ 65536) (n : Nat) (w : World) :
    Calls Try.prog 62 #[.int .i64 (t : Int), .slice (some ⟨w.heap.size, 0, none⟩) 1 n] (w.alloc (.cells #[.string d] 9)) fun e w' => e = .returned (.tuple #[.agg (byteCells (Sha.sha (tagL t [d]))).toArray, .int .i64 0]) ∧ Below w.heap.size w w' := by
  have hX := Texts.new w [d] #[.string d] rfl 1 rfl 9
  have hz : ∀ s ∈ [d], s.size ≤ 140737488351232 := fun s h => by rw [List.mem_singleton.1 h]; omega
  have hm : tagMay (t : Int) [d] = true := by
    unfold tagMay
    refine decide_eq_true ⟨by omega, by omega, ?_⟩
    simp only [totS]
    omega
  refine (tagSum_any (t : Int) _ 1 n _ _ hX (by decide) hz).mono ?_
  rintro e w' ⟨rfl, hb⟩
  have hb0 : Below w.heap.size w (w.alloc (.cells #[.string d] 9)) := (Below.refl _ _).alloc (Nat.le_refl _) _
  refine ⟨?_, hb0.trans (hb.mono hb0.size)⟩
  unfold tagAns
  rw [if_pos hm]
  rfl

set_option maxRecDepth 100000 in
set_option maxHeartbeats 1000000 in
theorem obHash_no (d : ByteArray) (h : 4096 < d.size) (w : World) : Calls Try.prog 36 #[.string d] w fun e w' => e = .returned (.tuple #[.agg z32, .int .i64 1100]) ∧ Below w.heap.size w w' := by
  have hi : (4096 : Int) < (d.size : Int) := by omega
  have hC := hid (hash_cells (List.replicate 32 0) rfl)
  obtain ⟨W0, hW0⟩ : ∃ W0, w.alloc (.cells z32 33) = W0 := ⟨_, rfl⟩
  have hZ0 := hid (show Holds W0 w.heap.size 33 z32.toList from by rw [← hW0]; exact Holds.new _ _ _)
  have hB0 := hid (show Below w.heap.size w W0 from by rw [← hW0]; exact (Below.refl _ _).alloc (Nat.le_refl _) _)
  have hW0' := hid hW0
  clear hW0
  go_enter Try.func36, Try.ntmps36
  go_wp2_with (first
    | ((with_reducible refine at_slot (some 2) ?_); refine wpList_run rfl (.pointer (some ⟨w.heap.size, 0, none⟩)) (w.alloc (.cells z32 33)) (by kernel_rfl) ?_; rw [hW0'.out])
    | ((with_reducible refine at_slot (some 9) ?_); refine wpList_run rfl (.agg z32) W0 (by kernel_rfl) ?_)
    | ((with_reducible refine at_slot none ?_); refine wpList_store_mid rfl 33 (.tmp 2) (.tmp 9) rfl w.heap.size 0 z32 rfl rfl (by exact hZ0.out.there 0 _ (Nat.le_refl 32)) (by kernel_rfl) (by kernel_rfl) ?_; generalize hW9 : World.setCells _ _ _ _ = W9; have hZ9 := hid (Holds.over hZ0.out rfl hW9); have hB9 := hid (below_put hB0.out (Nat.le_refl _) hW9); clear hW9)
    | fail)
  exact bodyPost_ret (results_ct rfl _ _ w.heap.size 33 _ (0, 0) _ rfl hZ9.out (.int .i64 1100) rfl Try.underlying33 rfl (by kernel_rfl)) rfl ⟨rfl, hB9.out⟩

set_option maxRecDepth 100000 in
set_option maxHeartbeats 1000000 in
theorem obHash_yes (d : ByteArray) (h : d.size ≤ 4096) (w : World) : Calls Try.prog 36 #[.string d] w fun e w' => e = .returned (.tuple #[.agg (byteCells (obHash d)).toArray, .int .i64 0]) ∧ Below w.heap.size w w' := by
  have hi : ¬ (4096 : Int) < (d.size : Int) := by omega
  have hT := hid (fun n W => tag1_any 0 (by decide) d (by omega) n W)
  obtain ⟨l, hl⟩ : ∃ l, obHash d = l := ⟨_, rfl⟩
  have l32 : l.length = 32 := by rw [← hl]; exact obHash_len d
  rw [show Sha.sha (tagL 0 [d]) = l from hl] at hT
  rw [hl]
  have hC := hid (hash_cells l l32)
  have hC2 := hid (show (Try.prog.info? 33).map (·.size) = some (byteCells l).length from by have := hC.out.size; rwa [List.size_toArray] at this)
  obtain ⟨W0, hW0⟩ : ∃ W0, w.alloc (.cells z32 33) = W0 := ⟨_, rfl⟩
  have hZ0 := hid (show Holds W0 w.heap.size 33 z32.toList from by rw [← hW0]; exact Holds.new _ _ _)
  have hB0 := hid (show Below w.heap.size w W0 from by rw [← hW0]; exact (Below.refl _ _).alloc (Nat.le_refl _) _)
  have hW0' := hid hW0
  clear hW0 hl l32 h
  go_enter Try.func36, Try.ntmps36
  go_wp2_with (first
    | ((with_reducible refine at_slot (some 2) ?_); refine wpList_run rfl (.pointer (some ⟨w.heap.size, 0, none⟩)) (w.alloc (.cells z32 33)) (by kernel_rfl) ?_; rw [hW0'.out])
    | fail)
  refine (hT.out _ W0).mono ?_
  rintro e W1 ⟨rfl, hb⟩
  have hZ1 := hid (hZ0.out.below hb hZ0.out.lt)
  have hB1 := hid (below_up hb hB0.out)
  clear hb hZ0 hB0
  try (rename_i hKK; refine hKK _ _ ?_; clear hKK)
  go_wp2_with (first
    | ((with_reducible refine at_slot (some 4) ?_); refine wpList_run rfl (.pointer (some ⟨W1.heap.size, 0, none⟩)) (W1.alloc (.cells z32 33)) (by kernel_rfl) ?_)
    | ((with_reducible refine at_slot none ?_); refine wpList_store_mid rfl 33 (.tmp 4) (.tmp 14) rfl W1.heap.size 0 (byteCells l).toArray rfl rfl (by exact hC.out.there W1) (by exact hC.out.size) (by exact hC.out.one) ?_; generalize hW : World.setCells _ _ _ _ = W2; obtain ⟨hN, hb⟩ := hC.out.new hW; have hZ2 := hid (hZ1.out.below hb hZ1.out.lt); have hB2 := hid (below_up hb hB1.out); have hX2 := hid hN; clear hb hZ1 hB1 hN; clear hW)
    | ((with_reducible refine at_slot (some 19) ?_); refine wpList_load_mid rfl 33 (.tmp 4) rfl W1.heap.size 0 rfl (byteCells l) _ (by exact h_all hX2.out) Try.underlying33 rfl (by exact hC2.out) ?_)
    | ((with_reducible refine at_slot none ?_); refine wpList_store_mid rfl 33 (.tmp 2) (.tmp 19) rfl w.heap.size 0 (byteCells l).toArray rfl rfl (by exact hZ2.out.there 0 _ (by rw [List.size_toArray, hC.out.len]; decide)) (by exact hC.out.size) (by exact hC.out.one) ?_; generalize hW9 : World.setCells _ _ _ _ = W9; have hZ9 := hid (Holds.over hZ2.out (by rw [hC.out.len]; rfl) hW9); have hB9 := hid (below_put hB2.out (Nat.le_refl _) hW9); clear hW9)
    | fail)
  exact bodyPost_ret (results_ct rfl _ _ w.heap.size 33 _ (0, 0) _ rfl hZ9.out (.int .i64 0) rfl Try.underlying33 rfl (by exact hC.out.size)) rfl ⟨rfl, hB9.out⟩

theorem gr_far {a w W : World} {row : Option Nat} {g o : Nat} {vs : List Value} (h : a.grownBy w row) (hg : a.heap.size ≤ g) (e : w.setCells g o vs = W) : a.grownBy W row := by
  subst e
  exact ⟨(below_setCells (Below.refl 0 w) g o vs (Nat.zero_le _)).os.trans h.os, (below_setCells (Below.refl 0 w) g o vs (Nat.zero_le _)).tape.trans h.tape, (below_setCells (Below.refl 0 w) g o vs (Nat.zero_le _)).output.trans h.output, Nat.le_trans h.size (below_setCells (Below.refl 0 w) g o vs (Nat.zero_le _)).size, fun i hi hr => ((below_setCells (Below.refl g w) g o vs (Nat.le_refl _)).block i (Nat.lt_of_lt_of_le hi hg)).trans (h.block i hi hr)⟩

set_option maxRecDepth 100000 in
set_option maxHeartbeats 2000000 in
theorem rowPut_there (s b most : Nat) (m : Obs) (k : List UInt8) (hk : k.length = 32) (d : ByteArray) (x : ByteArray) (hx : obGet m k = some x) (w : World) (hS : StoreAt w s b most m) : Calls Try.prog 37 #[.pointer (some ⟨s, 0, none⟩), .agg (byteCells k).toArray, .agg (obCells (k, d)).toArray] w fun e w' => e = .returned (.bool true) ∧ StoreAt w' s b most m ∧ w.grownBy w' (some b) := by
  obtain ⟨hc, hhc⟩ : ∃ c, byteCells k = c := ⟨_, rfl⟩
  obtain ⟨oc, hoc⟩ : ∃ c, obCells (k, d) = c := ⟨_, rfl⟩
  have hC := hid (show HashCells hc from by rw [← hhc]; exact hash_cells k hk)
  have hO := hid (show ObC oc from by rw [← hoc]; exact ob_cells k hk d)
  have hC2 := hid (show (Try.prog.info? 33).map (·.size) = some hc.length from by have := hC.out.size; rwa [List.size_toArray] at this)
  rw [hhc, hoc]
  have hlk := hid (fun V (h : StoreAt V s b most m) => show (Instr.lookup 75 (.map (some b)) (.agg hc.toArray) true).run Try.prog V = .ok (.tuple #[.agg (obCells (k, x)).toArray, .bool true]) V from by rw [← hhc]; exact (h.look hk).2 x hx)
  have hxo : ObC (obCells (k, x)) := ob_cells k hk x
  obtain ⟨xc, hxc⟩ : ∃ c, obCells (k, x) = c := ⟨_, rfl⟩
  rw [hxc] at hlk hxo
  have hX := hid hxo
  obtain ⟨WA, hWA⟩ : ∃ WA, w.alloc (.cells hc.toArray 33) = WA := ⟨_, rfl⟩
  have z1 : WA.heap.size = w.heap.size + 1 := by rw [← hWA]; simp
  obtain ⟨W0, hW0⟩ : ∃ W0, WA.alloc (.cells oc.toArray 85) = W0 := ⟨_, rfl⟩
  have hb0 : Below w.heap.size w W0 := by rw [← hW0, ← hWA]; exact ((Below.refl _ _).alloc (Nat.le_refl _) _).alloc (by simp) _
  have hA0 := hid (hS.on hb0)
  have hK0 := hid (show Holds W0 w.heap.size 33 hc from by rw [← hW0, ← hWA]; exact (Holds.new w 33 hc.toArray).alloc _)
  have hV0 := hid (show Holds W0 (w.heap.size + 1) 85 oc from by rw [← hW0, ← z1]; exact Holds.new _ 85 oc.toArray)
  have hG0 := hid (gr_of hb0 (some b))
  have hz := hid z1
  have hWA' := hid hWA
  have hW0' := hid hW0
  have hbl := hid hS.2.1.lt
  have hsl := hid hS.1.lt
  clear hhc hoc hxc hxo hx hk hWA hW0 z1 hb0 hS
  go_enter Try.func37, Try.ntmps37
  go_wp2_with (first
    | ((with_reducible refine at_slot (some 4) ?_); refine wpList_run rfl (.pointer (some ⟨w.heap.size, 0, none⟩)) (w.alloc (.cells hc.toArray 33)) (by kernel_rfl) ?_; rw [hWA'.out])
    | ((with_reducible refine at_slot (some 5) ?_); refine wpList_run rfl (.pointer (some ⟨WA.heap.size, 0, none⟩)) (WA.alloc (.cells oc.toArray 85)) (by kernel_rfl) ?_; rw [hW0'.out, hz.out])
    | fail)
  have hb : Below W0.heap.size W0 W0.drew := (Below.refl _ _).drew
  have hA1 := hid (hA0.out.on hb)
  have hK1 := hid (hK0.out.below hb hK0.out.lt)
  have hV1 := hid (hV0.out.below hb hV0.out.lt)
  have hG1 := hid (gr_up hb hG0.out)
  clear hb hA0 hK0 hV0 hG0
  refine wp_region_held_drew (S := fun V => StoreAt V s b most m ∧ Holds V w.heap.size 33 hc ∧ Holds V (w.heap.size + 1) 85 oc) (by kernel_rfl) (by exact ⟨hA1.out, hK1.out, hV1.out⟩) (fun hHeld => ?_)
  generalize W0.drew = W1 at *
  refine tkn 0 (.pointer (some ⟨s, 0, none⟩)) rfl (by kernel_rfl) (fun _ _ _ h => h) (yieldsIf_move _ rfl rfl rfl) hHeld ?_
  simp only [ly, Act.put]
  refine tkn 1 (.pointer (some ⟨s, 0, none⟩)) rfl (by kernel_rfl) (fun _ _ _ h => h) (.inl ⟨by kernel_rfl, fun w _ => by go_simp⟩) hHeld ?_
  simp only [ly, Act.put]
  refine tkn 2 (.pointer (some ⟨s, 0, none⟩)) rfl (by kernel_rfl) (fun _ _ _ h => h) (.inl ⟨by kernel_rfl, fun w _ => by go_simp⟩) hHeld ?_
  simp only [ly, Act.put]
  refine tkn 3 (.map (some b)) rfl (by kernel_rfl) (fun _ _ _ h => h) (.inl ⟨by kernel_rfl, fun V hS => by have c0 := hS.1.own.cO 0 _ rfl; go_simp⟩) hHeld ?_
  simp only [ly, Act.put]
  refine tkn 4 (.agg hc.toArray) rfl (by kernel_rfl) (fun _ _ _ h => h) (yieldsIf_load_any (by kernel_rfl) _ _ rfl ⟨w.heap.size, 0, none⟩ rfl hc _ (fun V hS => hS.2.1.anyO) Try.underlying33 rfl (by exact hC2.out)) hHeld ?_
  simp only [ly, Act.put]
  refine tkn 5 (.tuple #[.agg xc.toArray, .bool true]) rfl (by kernel_rfl) (fun _ _ _ h => h) (.inl ⟨by kernel_rfl, fun V hS => by have hl := hlk.out V hS.1; go_simp⟩) hHeld ?_
  simp only [ly, Act.put]
  refine tkn 6 (.tuple #[.agg xc.toArray, .bool true]) rfl (by kernel_rfl) (fun _ _ _ h => h) (yieldsIf_move _ rfl rfl rfl) hHeld ?_
  simp only [ly, Act.put]
  refine tkn 7 (.agg xc.toArray) rfl (by kernel_rfl) (fun _ _ _ h => h) (.inl ⟨by kernel_rfl, fun w _ => by go_simp⟩) hHeld ?_
  simp only [ly, Act.put]
  refine tkn 8 (.bool true) rfl (by kernel_rfl) (fun _ _ _ h => h) (.inl ⟨by kernel_rfl, fun w _ => by go_simp⟩) hHeld ?_
  simp only [ly, Act.put]
  refine wpAnyH_ready (rs := [9]) (by kernel_rfl) (by simp) (AllReadyH.cons rfl (fun K hK => ?_) AllReadyH.nil)
  have hK' := hid hK
  clear hK
  rw [if_pos (by kernel_rfl)]
  simp only [ly1, ly2, ly3]
  refine wp_run' (.pointer (some ⟨W1.heap.size, 0, none⟩)) (W1.alloc (.cells zOb.toArray 85)) (by kernel_rfl) ?_
  obtain ⟨g7, hg7⟩ : ∃ g, W1.heap.size = g := ⟨_, rfl⟩
  have hb : Below W1.heap.size W1 (W1.alloc (.cells zOb.toArray 85)) := (Below.refl _ _).alloc (Nat.le_refl _) _
  have hZz : Holds (W1.alloc (.cells zOb.toArray 85)) W1.heap.size 85 zOb := Holds.new _ _ _
  have hg7' := hid (show w.heap.size + 1 < g7 ∧ b < g7 ∧ s < g7 from by have h1 := hV1.out.lt; have h2 := hbl.out; have h3 := hsl.out; omega)
  generalize hXx : W1.alloc (.cells zOb.toArray 85) = W2 at *
  rw [hg7] at hZz ⊢
  clear hXx
  have hA2 := hid (hA1.out.on hb)
  have hK2 := hid (hK1.out.below hb hK1.out.lt)
  have hV2 := hid (hV1.out.below hb hV1.out.lt)
  have hG2 := hid (gr_up hb hG1.out)
  have hZ2 := hid hZz
  clear hb hA1 hK1 hV1 hG1 hZz
  clear hg7
  refine hK'.out _ _ (by exact ⟨hA2.out, hK2.out, hV2.out⟩) (fun hHeld => ?_)
  clear hK' K
  refine wpAnyH_ready (rs := [10]) (by kernel_rfl) (by simp) (AllReadyH.cons rfl (fun K hK => ?_) AllReadyH.nil)
  have hK' := hid hK
  clear hK
  rw [if_pos (by kernel_rfl)]
  simp only [ly1, ly2, ly3]
  refine wp_store_mid _ _ _ rfl g7 0 xc.toArray rfl rfl (by exact hZ2.out.there 0 _ (by rw [List.size_toArray, hX.out.len]; exact Nat.le_refl 33)) (by exact hX.out.size) (by exact hX.out.one) ?_
  generalize hXx : World.setCells _ _ _ _ = W3
  have hK3 := hid (holds_far hK2.out (by have := hg7'.out; omega) hXx)
  have hV3 := hid (holds_far hV2.out (by have := hg7'.out; omega) hXx)
  have hA3 := hid (hA2.out.far (by have := hg7'.out; omega) (by have := hg7'.out; omega) hXx)
  have hG3 := hid (gr_far hG2.out (by have := hg7'.out; omega) hXx)
  clear hXx
  clear hK2 hV2 hA2 hG2 hZ2
  refine hK'.out _ _ (by exact ⟨hA3.out, hK3.out, hV3.out⟩) (fun hHeld => ?_)
  clear hK' K
  refine tkn 11 (.bool true) rfl (by kernel_rfl) (fun _ _ _ h => h) (yieldsIf_assign _ rfl rfl rfl) hHeld ?_
  simp only [ly, Act.put]
  refine wpAnyH_done (by kernel_rfl) ?_ _
  go_wp2_with fail
  go_ret
  exact ⟨rfl, hA3.out, hG3.out⟩

set_option maxRecDepth 100000 in
set_option maxHeartbeats 2000000 in
theorem rowPut_full (s b most : Nat) (m : Obs) (k : List UInt8) (hk : k.length = 32) (d : ByteArray) (hx : obGet m k = none) (hm : m.length = most) (w : World) (hS : StoreAt w s b most m) : Calls Try.prog 37 #[.pointer (some ⟨s, 0, none⟩), .agg (byteCells k).toArray, .agg (obCells (k, d)).toArray] w fun e w' => e = .returned (.bool false) ∧ StoreAt w' s b most m ∧ w.grownBy w' (some b) := by
  obtain ⟨hc, hhc⟩ : ∃ c, byteCells k = c := ⟨_, rfl⟩
  obtain ⟨oc, hoc⟩ : ∃ c, obCells (k, d) = c := ⟨_, rfl⟩
  have hC := hid (show HashCells hc from by rw [← hhc]; exact hash_cells k hk)
  have hO := hid (show ObC oc from by rw [← hoc]; exact ob_cells k hk d)
  have hC2 := hid (show (Try.prog.info? 33).map (·.size) = some hc.length from by have := hC.out.size; rwa [List.size_toArray] at this)
  rw [hhc, hoc]
  have hlk := hid (fun V (h : StoreAt V s b most m) => show (Instr.lookup 75 (.map (some b)) (.agg hc.toArray) true).run Try.prog V = .ok (.tuple #[.agg zOb.toArray, .bool false]) V from by rw [← hhc]; exact (h.look hk).1 hx)
  have hX := hid zOb_cells
  have hln := hid (fun V (h : StoreAt V s b most m) (ty : TypeId) => h.len ty)
  have hgn : most ≤ m.length := by omega
  have hge : decide ((most : Int) ≤ (m.length : Int)) = true := decide_eq_true (by omega)
  obtain ⟨WA, hWA⟩ : ∃ WA, w.alloc (.cells hc.toArray 33) = WA := ⟨_, rfl⟩
  have z1 : WA.heap.size = w.heap.size + 1 := by rw [← hWA]; simp
  obtain ⟨W0, hW0⟩ : ∃ W0, WA.alloc (.cells oc.toArray 85) = W0 := ⟨_, rfl⟩
  have hb0 : Below w.heap.size w W0 := by rw [← hW0, ← hWA]; exact ((Below.refl _ _).alloc (Nat.le_refl _) _).alloc (by simp) _
  have hA0 := hid (hS.on hb0)
  have hK0 := hid (show Holds W0 w.heap.size 33 hc from by rw [← hW0, ← hWA]; exact (Holds.new w 33 hc.toArray).alloc _)
  have hV0 := hid (show Holds W0 (w.heap.size + 1) 85 oc from by rw [← hW0, ← z1]; exact Holds.new _ 85 oc.toArray)
  have hG0 := hid (gr_of hb0 (some b))
  have hz := hid z1
  have hWA' := hid hWA
  have hW0' := hid hW0
  have hbl := hid hS.2.1.lt
  have hsl := hid hS.1.lt
  clear hhc hoc hx hk hm hWA hW0 z1 hb0 hS
  go_enter Try.func37, Try.ntmps37
  go_wp2_with (first
    | ((with_reducible refine at_slot (some 4) ?_); refine wpList_run rfl (.pointer (some ⟨w.heap.size, 0, none⟩)) (w.alloc (.cells hc.toArray 33)) (by kernel_rfl) ?_; rw [hWA'.out])
    | ((with_reducible refine at_slot (some 5) ?_); refine wpList_run rfl (.pointer (some ⟨WA.heap.size, 0, none⟩)) (WA.alloc (.cells oc.toArray 85)) (by kernel_rfl) ?_; rw [hW0'.out, hz.out])
    | fail)
  have hb : Below W0.heap.size W0 W0.drew := (Below.refl _ _).drew
  have hA1 := hid (hA0.out.on hb)
  have hK1 := hid (hK0.out.below hb hK0.out.lt)
  have hV1 := hid (hV0.out.below hb hV0.out.lt)
  have hG1 := hid (gr_up hb hG0.out)
  clear hb hA0 hK0 hV0 hG0
  refine wp_region_held_drew (S := fun V => StoreAt V s b most m ∧ Holds V w.heap.size 33 hc ∧ Holds V (w.heap.size + 1) 85 oc) (by kernel_rfl) (by exact ⟨hA1.out, hK1.out, hV1.out⟩) (fun hHeld => ?_)
  generalize W0.drew = W1 at *
  refine tkn 0 (.pointer (some ⟨s, 0, none⟩)) rfl (by kernel_rfl) (fun _ _ _ h => h) (yieldsIf_move _ rfl rfl rfl) hHeld ?_
  simp only [ly, Act.put]
  refine tkn 1 (.pointer (some ⟨s, 0, none⟩)) rfl (by kernel_rfl) (fun _ _ _ h => h) (.inl ⟨by kernel_rfl, fun w _ => by go_simp⟩) hHeld ?_
  simp only [ly, Act.put]
  refine tkn 2 (.pointer (some ⟨s, 0, none⟩)) rfl (by kernel_rfl) (fun _ _ _ h => h) (.inl ⟨by kernel_rfl, fun w _ => by go_simp⟩) hHeld ?_
  simp only [ly, Act.put]
  refine tkn 3 (.map (some b)) rfl (by kernel_rfl) (fun _ _ _ h => h) (.inl ⟨by kernel_rfl, fun V hS => by have c0 := hS.1.own.cO 0 _ rfl; go_simp⟩) hHeld ?_
  simp only [ly, Act.put]
  refine tkn 4 (.agg hc.toArray) rfl (by kernel_rfl) (fun _ _ _ h => h) (yieldsIf_load_any (by kernel_rfl) _ _ rfl ⟨w.heap.size, 0, none⟩ rfl hc _ (fun V hS => hS.2.1.anyO) Try.underlying33 rfl (by exact hC2.out)) hHeld ?_
  simp only [ly, Act.put]
  refine tkn 5 (.tuple #[.agg zOb.toArray, .bool false]) rfl (by kernel_rfl) (fun _ _ _ h => h) (.inl ⟨by kernel_rfl, fun V hS => by have hl := hlk.out V hS.1; go_simp⟩) hHeld ?_
  simp only [ly, Act.put]
  refine tkn 6 (.tuple #[.agg zOb.toArray, .bool false]) rfl (by kernel_rfl) (fun _ _ _ h => h) (yieldsIf_move _ rfl rfl rfl) hHeld ?_
  simp only [ly, Act.put]
  refine tkn 7 (.agg zOb.toArray) rfl (by kernel_rfl) (fun _ _ _ h => h) (.inl ⟨by kernel_rfl, fun w _ => by go_simp⟩) hHeld ?_
  simp only [ly, Act.put]
  refine tkn 8 (.bool false) rfl (by kernel_rfl) (fun _ _ _ h => h) (.inl ⟨by kernel_rfl, fun w _ => by go_simp⟩) hHeld ?_
  simp only [ly, Act.put]
  refine wpAnyH_ready (rs := [9]) (by kernel_rfl) (by simp) (AllReadyH.cons rfl (fun K hK => ?_) AllReadyH.nil)
  have hK' := hid hK
  clear hK
  rw [if_pos (by kernel_rfl)]
  simp only [ly1, ly2, ly3]
  refine wp_run' (.pointer (some ⟨W1.heap.size, 0, none⟩)) (W1.alloc (.cells zOb.toArray 85)) (by kernel_rfl) ?_
  obtain ⟨g7, hg7⟩ : ∃ g, W1.heap.size = g := ⟨_, rfl⟩
  have hb : Below W1.heap.size W1 (W1.alloc (.cells zOb.toArray 85)) := (Below.refl _ _).alloc (Nat.le_refl _) _
  have hZz : Holds (W1.alloc (.cells zOb.toArray 85)) W1.heap.size 85 zOb := Holds.new _ _ _
  have hg7' := hid (show w.heap.size + 1 < g7 ∧ b < g7 ∧ s < g7 from by have h1 := hV1.out.lt; have h2 := hbl.out; have h3 := hsl.out; omega)
  generalize hXx : W1.alloc (.cells zOb.toArray 85) = W2 at *
  rw [hg7] at hZz ⊢
  clear hXx
  have hA2 := hid (hA1.out.on hb)
  have hK2 := hid (hK1.out.below hb hK1.out.lt)
  have hV2 := hid (hV1.out.below hb hV1.out.lt)
  have hG2 := hid (gr_up hb hG1.out)
  have hZ2 := hid hZz
  clear hb hA1 hK1 hV1 hG1 hZz
  clear hg7
  refine hK'.out _ _ (by exact ⟨hA2.out, hK2.out, hV2.out⟩) (fun hHeld => ?_)
  clear hK' K
  refine wpAnyH_ready (rs := [10]) (by kernel_rfl) (by simp) (AllReadyH.cons rfl (fun K hK => ?_) AllReadyH.nil)
  have hK' := hid hK
  clear hK
  rw [if_pos (by kernel_rfl)]
  simp only [ly1, ly2, ly3]
  refine wp_store_mid _ _ _ rfl g7 0 zOb.toArray rfl rfl (by exact hZ2.out.there 0 _ (by rw [List.size_toArray, hX.out.len]; exact Nat.le_refl 33)) (by exact hX.out.size) (by exact hX.out.one) ?_
  generalize hXx : World.setCells _ _ _ _ = W3
  have hK3 := hid (holds_far hK2.out (by have := hg7'.out; omega) hXx)
  have hV3 := hid (holds_far hV2.out (by have := hg7'.out; omega) hXx)
  have hA3 := hid (hA2.out.far (by have := hg7'.out; omega) (by have := hg7'.out; omega) hXx)
  have hG3 := hid (gr_far hG2.out (by have := hg7'.out; omega) hXx)
  clear hXx
  clear hK2 hV2 hA2 hG2 hZ2
  refine hK'.out _ _ (by exact ⟨hA3.out, hK3.out, hV3.out⟩) (fun hHeld => ?_)
  clear hK' K
  refine tkn 11 (.bool false) rfl (by kernel_rfl) (fun _ _ _ h => h) (yieldsIf_assign _ rfl rfl rfl) hHeld ?_
  simp only [ly, Act.put]
  refine wpAnyH_done (by kernel_rfl) ?_ _
  go_wp2_with fail
  have hb : Below W3.heap.size W3 W3.drew := (Below.refl _ _).drew
  have hA4 := hid (hA3.out.on hb)
  have hK4 := hid (hK3.out.below hb hK3.out.lt)
  have hV4 := hid (hV3.out.below hb hV3.out.lt)
  have hG4 := hid (gr_up hb hG3.out)
  clear hb hA3 hK3 hV3 hG3
  refine wp_region_held_drew (S := fun V => StoreAt V s b most m ∧ Holds V w.heap.size 33 hc ∧ Holds V (w.heap.size + 1) 85 oc) (by kernel_rfl) (by exact ⟨hA4.out, hK4.out, hV4.out⟩) (fun hHeld => ?_)
  generalize W3.drew = W4 at *
  refine tkn 0 (.pointer (some ⟨s, 0, none⟩)) rfl (by kernel_rfl) (fun _ _ _ h => h) (yieldsIf_move _ rfl rfl rfl) hHeld ?_
  simp only [ly, Act.put]
  refine tkn 1 (.pointer (some ⟨s, 0, none⟩)) rfl (by kernel_rfl) (fun _ _ _ h => h) (.inl ⟨by kernel_rfl, fun w _ => by go_simp⟩) hHeld ?_
  simp only [ly, Act.put]
  refine tkn 2 (.pointer (some ⟨s, 0, none⟩)) rfl (by kernel_rfl) (fun _ _ _ h => h) (.inl ⟨by kernel_rfl, fun w _ => by go_simp⟩) hHeld ?_
  simp only [ly, Act.put]
  refine tkn 3 (.map (some b)) rfl (by kernel_rfl) (fun _ _ _ h => h) (.inl ⟨by kernel_rfl, fun V hS => by have c0 := hS.1.own.cO 0 _ rfl; go_simp⟩) hHeld ?_
  simp only [ly, Act.put]
  refine tkn 4 (.int .i64 (m.length : Int)) rfl (by kernel_rfl) (fun _ _ _ h => h) (.inl ⟨by kernel_rfl, fun V hS => by have hl := hln.out V hS.1; go_simp⟩) hHeld ?_
  simp only [ly, Act.put]
  refine tkn 5 (.pointer (some ⟨s, 0, none⟩)) rfl (by kernel_rfl) (fun _ _ _ h => h) (yieldsIf_move _ rfl rfl rfl) hHeld ?_
  simp only [ly, Act.put]
  refine tkn 6 (.pointer (some ⟨s, 0, none⟩)) rfl (by kernel_rfl) (fun _ _ _ h => h) (.inl ⟨by kernel_rfl, fun w _ => by go_simp⟩) hHeld ?_
  simp only [ly, Act.put]
  refine tkn 7 (.pointer (some ⟨s, 1, none⟩)) rfl (by kernel_rfl) (fun _ _ _ h => h) (.inl ⟨by kernel_rfl, fun w _ => by go_simp⟩) hHeld ?_
  simp only [ly, Act.put]
  refine tkn 8 (.int .i64 (most : Int)) rfl (by kernel_rfl) (fun _ _ _ h => h) (.inl ⟨by kernel_rfl, fun V hS => by have c1 := hS.1.own.cO 1 _ rfl; go_simp⟩) hHeld ?_
  simp only [ly, Act.put]
  refine tkn 9 (.bool true) rfl (by kernel_rfl) (fun _ _ _ h => h) (.inl ⟨by kernel_rfl, fun w _ => by go_simp⟩) hHeld ?_
  simp only [ly, Act.put]
  refine wpAnyH_done (by kernel_rfl) ?_ _
  go_wp2_with fail
  go_ret
  exact ⟨rfl, hA4.out, hG4.out⟩

set_option maxRecDepth 100000 in
set_option maxHeartbeats 2000000 in
theorem rowPut_new (s b most : Nat) (m : Obs) (k : List UInt8) (hk : k.length = 32) (d : ByteArray) (hx : obGet m (obHash d) = none) (hm : m.length < most) (hkd : k = obHash d) (w : World) (hS : StoreAt w s b most m) : Calls Try.prog 37 #[.pointer (some ⟨s, 0, none⟩), .agg (byteCells k).toArray, .agg (obCells (k, d)).toArray] w fun e w' => e = .returned (.bool true) ∧ StoreAt w' s b most (m ++ [(k, d)]) ∧ w.grownBy w' (some b) := by
  subst hkd
  obtain ⟨hc, hhc⟩ : ∃ c, byteCells (obHash d) = c := ⟨_, rfl⟩
  obtain ⟨oc, hoc⟩ : ∃ c, obCells (obHash d, d) = c := ⟨_, rfl⟩
  have hC := hid (show HashCells hc from by rw [← hhc]; exact hash_cells _ hk)
  have hO := hid (show ObC oc from by rw [← hoc]; exact ob_cells _ hk d)
  have hC2 := hid (show (Try.prog.info? 33).map (·.size) = some hc.length from by have := hC.out.size; rwa [List.size_toArray] at this)
  rw [hhc, hoc]
  have hlk := hid (fun V (h : StoreAt V s b most m) => show (Instr.lookup 75 (.map (some b)) (.agg hc.toArray) true).run Try.prog V = .ok (.tuple #[.agg zOb.toArray, .bool false]) V from by rw [← hhc]; exact (h.look hk).1 hx)
  have hX := hid zOb_cells
  have hln := hid (fun V (h : StoreAt V s b most m) (ty : TypeId) => h.len ty)
  have hgn : m.length < most := hm
  have hge : decide ((most : Int) ≤ (m.length : Int)) = false := decide_eq_false (by omega)
  have hadd := hid (fun V (h : StoreAt V s b most m) => show ∃ w', (Instr.mapUpdate 75 (.map (some b)) (.agg hc.toArray) (.agg oc.toArray)).run Try.prog V = .ok () w' ∧ StoreAt w' s b most (m ++ [(obHash d, d)]) ∧ V.grownBy w' (some b) ∧ w'.heap.size = V.heap.size ∧ ∀ i, i ≠ b → w'.heap[i]? = V.heap[i]? from by rw [← hhc, ← hoc]; exact h.add hx hm)
  obtain ⟨WA, hWA⟩ : ∃ WA, w.alloc (.cells hc.toArray 33) = WA := ⟨_, rfl⟩
  have z1 : WA.heap.size = w.heap.size + 1 := by rw [← hWA]; simp
  obtain ⟨W0, hW0⟩ : ∃ W0, WA.alloc (.cells oc.toArray 85) = W0 := ⟨_, rfl⟩
  have hb0 : Below w.heap.size w W0 := by rw [← hW0, ← hWA]; exact ((Below.refl _ _).alloc (Nat.le_refl _) _).alloc (by simp) _
  have hA0 := hid (hS.on hb0)
  have hK0 := hid (show Holds W0 w.heap.size 33 hc from by rw [← hW0, ← hWA]; exact (Holds.new w 33 hc.toArray).alloc _)
  have hV0 := hid (show Holds W0 (w.heap.size + 1) 85 oc from by rw [← hW0, ← z1]; exact Holds.new _ 85 oc.toArray)
  have hG0 := hid (gr_of hb0 (some b))
  have hz := hid z1
  have hWA' := hid hWA
  have hW0' := hid hW0
  have hbl := hid hS.2.1.lt
  have hsl := hid hS.1.lt
  clear hhc hoc hx hk hm hWA hW0 z1 hb0 hS
  go_enter Try.func37, Try.ntmps37
  go_wp2_with (first
    | ((with_reducible refine at_slot (some 4) ?_); refine wpList_run rfl (.pointer (some ⟨w.heap.size, 0, none⟩)) (w.alloc (.cells hc.toArray 33)) (by kernel_rfl) ?_; rw [hWA'.out])
    | ((with_reducible refine at_slot (some 5) ?_); refine wpList_run rfl (.pointer (some ⟨WA.heap.size, 0, none⟩)) (WA.alloc (.cells oc.toArray 85)) (by kernel_rfl) ?_; rw [hW0'.out, hz.out])
    | fail)
  have hb : Below W0.heap.size W0 W0.drew := (Below.refl _ _).drew
  have hA1 := hid (hA0.out.on hb)
  have hK1 := hid (hK0.out.below hb hK0.out.lt)
  have hV1 := hid (hV0.out.below hb hV0.out.lt)
  have hG1 := hid (gr_up hb hG0.out)
  clear hb hA0 hK0 hV0 hG0
  refine wp_region_held_drew (S := fun V => StoreAt V s b most m ∧ Holds V w.heap.size 33 hc ∧ Holds V (w.heap.size + 1) 85 oc) (by kernel_rfl) (by exact ⟨hA1.out, hK1.out, hV1.out⟩) (fun hHeld => ?_)
  generalize W0.drew = W1 at *
  refine tkn 0 (.pointer (some ⟨s, 0, none⟩)) rfl (by kernel_rfl) (fun _ _ _ h => h) (yieldsIf_move _ rfl rfl rfl) hHeld ?_
  simp only [ly, Act.put]
  refine tkn 1 (.pointer (some ⟨s, 0, none⟩)) rfl (by kernel_rfl) (fun _ _ _ h => h) (.inl ⟨by kernel_rfl, fun w _ => by go_simp⟩) hHeld ?_
  simp only [ly, Act.put]
  refine tkn 2 (.pointer (some ⟨s, 0, none⟩)) rfl (by kernel_rfl) (fun _ _ _ h => h) (.inl ⟨by kernel_rfl, fun w _ => by go_simp⟩) hHeld ?_
  simp only [ly, Act.put]
  refine tkn 3 (.map (some b)) rfl (by kernel_rfl) (fun _ _ _ h => h) (.inl ⟨by kernel_rfl, fun V hS => by have c0 := hS.1.own.cO 0 _ rfl; go_simp⟩) hHeld ?_
  simp only [ly, Act.put]
  refine tkn 4 (.agg hc.toArray) rfl (by kernel_rfl) (fun _ _ _ h => h) (yieldsIf_load_any (by kernel_rfl) _ _ rfl ⟨w.heap.size, 0, none⟩ rfl hc _ (fun V hS => hS.2.1.anyO) Try.underlying33 rfl (by exact hC2.out)) hHeld ?_
  simp only [ly, Act.put]
  refine tkn 5 (.tuple #[.agg zOb.toArray, .bool false]) rfl (by kernel_rfl) (fun _ _ _ h => h) (.inl ⟨by kernel_rfl, fun V hS => by have hl := hlk.out V hS.1; go_simp⟩) hHeld ?_
  simp only [ly, Act.put]
  refine tkn 6 (.tuple #[.agg zOb.toArray, .bool false]) rfl (by kernel_rfl) (fun _ _ _ h => h) (yieldsIf_move _ rfl rfl rfl) hHeld ?_
  simp only [ly, Act.put]
  refine tkn 7 (.agg zOb.toArray) rfl (by kernel_rfl) (fun _ _ _ h => h) (.inl ⟨by kernel_rfl, fun w _ => by go_simp⟩) hHeld ?_
  simp only [ly, Act.put]
  refine tkn 8 (.bool false) rfl (by kernel_rfl) (fun _ _ _ h => h) (.inl ⟨by kernel_rfl, fun w _ => by go_simp⟩) hHeld ?_
  simp only [ly, Act.put]
  refine wpAnyH_ready (rs := [9]) (by kernel_rfl) (by simp) (AllReadyH.cons rfl (fun K hK => ?_) AllReadyH.nil)
  have hK' := hid hK
  clear hK
  rw [if_pos (by kernel_rfl)]
  simp only [ly1, ly2, ly3]
  refine wp_run' (.pointer (some ⟨W1.heap.size, 0, none⟩)) (W1.alloc (.cells zOb.toArray 85)) (by kernel_rfl) ?_
  obtain ⟨g7, hg7⟩ : ∃ g, W1.heap.size = g := ⟨_, rfl⟩
  have hb : Below W1.heap.size W1 (W1.alloc (.cells zOb.toArray 85)) := (Below.refl _ _).alloc (Nat.le_refl _) _
  have hZz : Holds (W1.alloc (.cells zOb.toArray 85)) W1.heap.size 85 zOb := Holds.new _ _ _
  have hg7' := hid (show w.heap.size + 1 < g7 ∧ b < g7 ∧ s < g7 from by have h1 := hV1.out.lt; have h2 := hbl.out; have h3 := hsl.out; omega)
  generalize hXx : W1.alloc (.cells zOb.toArray 85) = W2 at *
  rw [hg7] at hZz ⊢
  clear hXx
  have hA2 := hid (hA1.out.on hb)
  have hK2 := hid (hK1.out.below hb hK1.out.lt)
  have hV2 := hid (hV1.out.below hb hV1.out.lt)
  have hG2 := hid (gr_up hb hG1.out)
  have hZ2 := hid hZz
  clear hb hA1 hK1 hV1 hG1 hZz
  clear hg7
  refine hK'.out _ _ (by exact ⟨hA2.out, hK2.out, hV2.out⟩) (fun hHeld => ?_)
  clear hK' K
  refine wpAnyH_ready (rs := [10]) (by kernel_rfl) (by simp) (AllReadyH.cons rfl (fun K hK => ?_) AllReadyH.nil)
  have hK' := hid hK
  clear hK
  rw [if_pos (by kernel_rfl)]
  simp only [ly1, ly2, ly3]
  refine wp_store_mid _ _ _ rfl g7 0 zOb.toArray rfl rfl (by exact hZ2.out.there 0 _ (by rw [List.size_toArray, hX.out.len]; exact Nat.le_refl 33)) (by exact hX.out.size) (by exact hX.out.one) ?_
  generalize hXx : World.setCells _ _ _ _ = W3
  have hK3 := hid (holds_far hK2.out (by have := hg7'.out; omega) hXx)
  have hV3 := hid (holds_far hV2.out (by have := hg7'.out; omega) hXx)
  have hA3 := hid (hA2.out.far (by have := hg7'.out; omega) (by have := hg7'.out; omega) hXx)
  have hG3 := hid (gr_far hG2.out (by have := hg7'.out; omega) hXx)
  clear hXx
  clear hK2 hV2 hA2 hG2 hZ2
  refine hK'.out _ _ (by exact ⟨hA3.out, hK3.out, hV3.out⟩) (fun hHeld => ?_)
  clear hK' K
  refine tkn 11 (.bool false) rfl (by kernel_rfl) (fun _ _ _ h => h) (yieldsIf_assign _ rfl rfl rfl) hHeld ?_
  simp only [ly, Act.put]
  refine wpAnyH_done (by kernel_rfl) ?_ _
  go_wp2_with fail
  have hb : Below W3.heap.size W3 W3.drew := (Below.refl _ _).drew
  have hA4 := hid (hA3.out.on hb)
  have hK4 := hid (hK3.out.below hb hK3.out.lt)
  have hV4 := hid (hV3.out.below hb hV3.out.lt)
  have hG4 := hid (gr_up hb hG3.out)
  clear hb hA3 hK3 hV3 hG3
  refine wp_region_held_drew (S := fun V => StoreAt V s b most m ∧ Holds V w.heap.size 33 hc ∧ Holds V (w.heap.size + 1) 85 oc) (by kernel_rfl) (by exact ⟨hA4.out, hK4.out, hV4.out⟩) (fun hHeld => ?_)
  generalize W3.drew = W4 at *
  refine tkn 0 (.pointer (some ⟨s, 0, none⟩)) rfl (by kernel_rfl) (fun _ _ _ h => h) (yieldsIf_move _ rfl rfl rfl) hHeld ?_
  simp only [ly, Act.put]
  refine tkn 1 (.pointer (some ⟨s, 0, none⟩)) rfl (by kernel_rfl) (fun _ _ _ h => h) (.inl ⟨by kernel_rfl, fun w _ => by go_simp⟩) hHeld ?_
  simp only [ly, Act.put]
  refine tkn 2 (.pointer (some ⟨s, 0, none⟩)) rfl (by kernel_rfl) (fun _ _ _ h => h) (.inl ⟨by kernel_rfl, fun w _ => by go_simp⟩) hHeld ?_
  simp only [ly, Act.put]
  refine tkn 3 (.map (some b)) rfl (by kernel_rfl) (fun _ _ _ h => h) (.inl ⟨by kernel_rfl, fun V hS => by have c0 := hS.1.own.cO 0 _ rfl; go_simp⟩) hHeld ?_
  simp only [ly, Act.put]
  refine tkn 4 (.int .i64 (m.length : Int)) rfl (by kernel_rfl) (fun _ _ _ h => h) (.inl ⟨by kernel_rfl, fun V hS => by have hl := hln.out V hS.1; go_simp⟩) hHeld ?_
  simp only [ly, Act.put]
  refine tkn 5 (.pointer (some ⟨s, 0, none⟩)) rfl (by kernel_rfl) (fun _ _ _ h => h) (yieldsIf_move _ rfl rfl rfl) hHeld ?_
  simp only [ly, Act.put]
  refine tkn 6 (.pointer (some ⟨s, 0, none⟩)) rfl (by kernel_rfl) (fun _ _ _ h => h) (.inl ⟨by kernel_rfl, fun w _ => by go_simp⟩) hHeld ?_
  simp only [ly, Act.put]
  refine tkn 7 (.pointer (some ⟨s, 1, none⟩)) rfl (by kernel_rfl) (fun _ _ _ h => h) (.inl ⟨by kernel_rfl, fun w _ => by go_simp⟩) hHeld ?_
  simp only [ly, Act.put]
  refine tkn 8 (.int .i64 (most : Int)) rfl (by kernel_rfl) (fun _ _ _ h => h) (.inl ⟨by kernel_rfl, fun V hS => by have c1 := hS.1.own.cO 1 _ rfl; go_simp⟩) hHeld ?_
  simp only [ly, Act.put]
  refine tkn 9 (.bool false) rfl (by kernel_rfl) (fun _ _ _ h => h) (.inl ⟨by kernel_rfl, fun w _ => by go_simp⟩) hHeld ?_
  simp only [ly, Act.put]
  refine wpAnyH_done (by kernel_rfl) ?_ _
  go_wp2_with fail
  have hb : Below W4.heap.size W4 W4.drew := (Below.refl _ _).drew
  have hA5 := hid (hA4.out.on hb)
  have hK5 := hid (hK4.out.below hb hK4.out.lt)
  have hV5 := hid (hV4.out.below hb hV4.out.lt)
  have hG5 := hid (gr_up hb hG4.out)
  clear hb hA4 hK4 hV4 hG4
  refine wp_region_held_drew (S := fun V => Holds V s 79 [.map (some b), .int .i64 (most : Int)] ∧ Holds V w.heap.size 33 hc ∧ Holds V (w.heap.size + 1) 85 oc) (by kernel_rfl) (by exact ⟨hA5.out.own, hK5.out, hV5.out⟩) (fun hHeld => ?_)
  generalize W4.drew = W5 at *
  refine tkn 0 (.pointer (some ⟨s, 0, none⟩)) rfl (by kernel_rfl) (fun _ _ _ h => h) (yieldsIf_move _ rfl rfl rfl) hHeld ?_
  simp only [ly, Act.put]
  refine tkn 1 (.pointer (some ⟨s, 0, none⟩)) rfl (by kernel_rfl) (fun _ _ _ h => h) (.inl ⟨by kernel_rfl, fun w _ => by go_simp⟩) hHeld ?_
  simp only [ly, Act.put]
  refine tkn 2 (.pointer (some ⟨s, 0, none⟩)) rfl (by kernel_rfl) (fun _ _ _ h => h) (.inl ⟨by kernel_rfl, fun w _ => by go_simp⟩) hHeld ?_
  simp only [ly, Act.put]
  refine tkn 3 (.map (some b)) rfl (by kernel_rfl) (fun _ _ _ h => h) (.inl ⟨by kernel_rfl, fun V hS => by have c0 := hS.1.cO 0 _ rfl; go_simp⟩) hHeld ?_
  simp only [ly, Act.put]
  refine tkn 4 (.agg hc.toArray) rfl (by kernel_rfl) (fun _ _ _ h => h) (yieldsIf_load_any (by kernel_rfl) _ _ rfl ⟨w.heap.size, 0, none⟩ rfl hc _ (fun V hS => hS.2.1.anyO) Try.underlying33 rfl (by exact hC2.out)) hHeld ?_
  simp only [ly, Act.put]
  refine tkn 5 (.agg oc.toArray) rfl (by kernel_rfl) (fun _ _ _ h => h) (yieldsIf_load_any (by kernel_rfl) _ _ rfl ⟨w.heap.size + 1, 0, none⟩ rfl oc _ (fun V hS => hS.2.2.anyO) Try.underlying85 rfl (by exact hO.out.size')) hHeld ?_
  simp only [ly, Act.put]
  refine wpAnyH_ready (rs := [6]) (by kernel_rfl) (by simp) (AllReadyH.cons rfl (fun K hK => ?_) AllReadyH.nil)
  have hK' := hid hK
  clear hK
  rw [if_pos (by kernel_rfl)]
  simp only [ly1, ly2, ly3]
  obtain ⟨W6, hr, hA, hg, hsz, hbk⟩ := hadd.out W5 hA5.out
  refine wp_mapPut _ _ _ _ rfl _ _ _ rfl rfl rfl hr ?_
  have hA6 := hid hA
  have hG6 := hid (gr_trans hG5.out hg)
  have hK6 := hid ((hbk _ (by have := hbl.out; omega)).trans hK5.out)
  have hV6 := hid ((hbk _ (by have := hbl.out; omega)).trans hV5.out)
  clear hA hg hsz hbk hr hA5 hG5 hK5 hV5
  refine hK'.out _ _ (by exact ⟨hA6.out.own, hK6.out, hV6.out⟩) (fun hHeld => ?_)
  clear hK' K
  refine wpAnyH_done (by kernel_rfl) ?_ _
  go_wp2_with fail
  go_ret
  exact ⟨rfl, hA6.out, hG6.out⟩

end Go.Proofs.Ytpjfhbmegabafaa
namespace Go.Proofs.Ytpjfhbmegabafaa
open Go.RowKit
open Go.Lib (strCells strCells_length strCells_oneCell)
attribute [local irreducible] Sha.compress Sha.blocks Sha.sha Sha.pad

theorem hb_neb {w w' : World} {g b : Nat} {t : TypeId} {cs : List Value} (h : Holds w g t cs) (hg : w.grownBy w' (some b)) (hne : g ≠ b) : Holds w' g t cs := h.grown hg (fun e => hne (Option.some.inj e))
theorem ob_build (l : List UInt8) (d : ByteArray) : (obCells (l, d)).toArray = (byteCells l).toArray ++ #[.string d] := by unfold obCells; simp
set_option maxRecDepth 100000 in
set_option maxHeartbeats 2000000 in
theorem obPut_by (s b most : Nat) (m m' : Obs) (d : ByteArray) (hd : d.size ≤ 4096) (r : Bool) (hP : ∀ V, StoreAt V s b most m → Calls Try.prog 37 #[.pointer (some ⟨s, 0, none⟩), .agg (byteCells (obHash d)).toArray, .agg (obCells (obHash d, d)).toArray] V fun e w' => e = .returned (.bool r) ∧ StoreAt w' s b most m' ∧ V.grownBy w' (some b)) (w : World) (hS : StoreAt w s b most m) :
    Calls Try.prog 15 #[.pointer (some ⟨s, 0, none⟩), .string d] w fun e w' => e = .returned (.tuple #[.agg (if r then (byteCells (obHash d)).toArray else z32), .int .i64 (if r then 0 else 1102)]) ∧ StoreAt w' s b most m' ∧ w.grownBy w' (some b) := by
  have hHs := hid (fun W => obHash_yes d hd W)
  have hk := obHash_len d
  have hbuild := hid (ob_build (obHash d) d)
  obtain ⟨hc, hhc⟩ : ∃ c, byteCells (obHash d) = c := ⟨_, rfl⟩
  obtain ⟨oc, hoc⟩ : ∃ c, obCells (obHash d, d) = c := ⟨_, rfl⟩
  have hC := hid (show HashCells hc from by rw [← hhc]; exact hash_cells _ hk)
  have hC2 := hid (show (Try.prog.info? 33).map (·.size) = some hc.length from by have := hC.out.size; rwa [List.size_toArray] at this)
  rw [hhc, hoc] at hbuild
  rw [hhc] at hHs
  rw [hhc, hoc] at hP
  rw [hhc]
  have hP := hid hP
  have hY := hid (show hc.toArray.size = 32 from by rw [List.size_toArray, hC.out.len])
  obtain ⟨W0, hW0⟩ : ∃ W0, w.alloc (.cells z32 33) = W0 := ⟨_, rfl⟩
  have hb0 : Below w.heap.size w W0 := by rw [← hW0]; exact (Below.refl _ _).alloc (Nat.le_refl _) _
  have hA0 := hid (hS.on hb0)
  have hZ0 := hid (show Holds W0 w.heap.size 33 z32.toList from by rw [← hW0]; exact Holds.new _ _ _)
  have hG0 := hid (gr_of hb0 (some b))
  have hW0' := hid hW0
  have hbl := hid hS.2.1.lt
  have hsl := hid hS.1.lt
  clear hhc hoc hk hW0 hb0 hS hd
  go_enter Try.func15, Try.ntmps15
  go_wp2_with (first
    | ((with_reducible refine at_slot (some 4) ?_); refine wpList_run rfl (.pointer (some ⟨w.heap.size, 0, none⟩)) (w.alloc (.cells z32 33)) (by kernel_rfl) ?_; rw [hW0'.out])
    | fail)
  refine (hHs.out _).mono ?_
  rintro e W1 ⟨rfl, hb⟩
  have hA1 := hid (hA0.out.on hb)
  have hZ1 := hid (hZ0.out.below hb hZ0.out.lt)
  have hG1 := hid (gr_up hb hG0.out)
  clear hb hA0 hZ0 hG0
  try (rename_i hKK; refine hKK _ _ ?_; clear hKK)
  have hlt6 := hid (show w.heap.size < W1.heap.size from hZ1.out.lt)
  go_wp2_with (first
    | ((with_reducible refine at_slot (some 6) ?_); refine wpList_run rfl (.pointer (some ⟨W1.heap.size, 0, none⟩)) (W1.alloc (.cells z32 33)) (by kernel_rfl) ?_)
    | ((with_reducible refine at_slot none ?_); refine wpList_store_mid rfl 33 (.tmp 6) (.tmp 14) rfl W1.heap.size 0 hc.toArray rfl rfl (by exact hC.out.there W1) (by exact hC.out.size) (by exact hC.out.one) ?_; generalize hW : World.setCells _ _ _ _ = W2; obtain ⟨hN, hb⟩ := hC.out.new hW; have hA2 := hid (hA1.out.on hb); have hZ2 := hid (hZ1.out.below hb hZ1.out.lt); have hG2 := hid (gr_up hb hG1.out); have hX2 := hid hN; clear hb hA1 hZ1 hG1 hN; clear hW)
    | fail)
  obtain ⟨g6, hg6⟩ : ∃ g, W1.heap.size = g := ⟨_, rfl⟩
  have hg6' := hid (show b < w.heap.size ∧ b < g6 from by have h3 := hbl.out; have h4 := hlt6.out; omega)
  rw [hg6] at hX2 ⊢
  clear hg6
  have hb : Below W2.heap.size W2 W2.drew := (Below.refl _ _).drew
  have hA3 := hid (hA2.out.on hb)
  have hZ3 := hid (hZ2.out.below hb hZ2.out.lt)
  have hG3 := hid (gr_up hb hG2.out)
  have hX3 := hid (hX2.out.below hb hX2.out.lt)
  clear hb hA2 hZ2 hG2 hX2
  refine wp_region_held_drew (S := fun V => Holds V g6 33 hc ∧ Holds V g6 33 hc) (by kernel_rfl) (by exact ⟨hX3.out, hX3.out⟩) (fun hHeld => ?_)
  generalize W2.drew = W3 at *
  refine tkn 0 (.pointer (some ⟨s, 0, none⟩)) rfl (by kernel_rfl) (fun _ _ _ h => h) (yieldsIf_move _ rfl rfl rfl) hHeld ?_
  simp only [ly, Act.put]
  refine tkn 1 (.pointer (some ⟨s, 0, none⟩)) rfl (by kernel_rfl) (fun _ _ _ h => h) (.inl ⟨by kernel_rfl, fun w _ => by go_simp⟩) hHeld ?_
  simp only [ly, Act.put]
  refine tkn 2 (.pointer (some ⟨s, 0, none⟩)) rfl (by kernel_rfl) (fun _ _ _ h => h) (.inl ⟨by kernel_rfl, fun w _ => by go_simp⟩) hHeld ?_
  simp only [ly, Act.put]
  refine tkn 3 (.agg hc.toArray) rfl (by kernel_rfl) (fun _ _ _ h => h) (yieldsIf_load_any (by kernel_rfl) _ _ rfl ⟨g6, 0, none⟩ rfl hc _ (fun V hS => hS.1.anyO) Try.underlying33 rfl (by exact hC2.out)) hHeld ?_
  simp only [ly, Act.put]
  refine tkn 4 (.agg hc.toArray) rfl (by kernel_rfl) (fun _ _ _ h => h) (yieldsIf_load_any (by kernel_rfl) _ _ rfl ⟨g6, 0, none⟩ rfl hc _ (fun V hS => hS.1.anyO) Try.underlying33 rfl (by exact hC2.out)) hHeld ?_
  simp only [ly, Act.put]
  refine tkn 5 (.string d) rfl (by kernel_rfl) (fun _ _ _ h => h) (yieldsIf_move _ rfl rfl rfl) hHeld ?_
  simp only [ly, Act.put]
  refine tkn 6 (.agg oc.toArray) rfl (by kernel_rfl) (fun _ _ _ h => h) (.inl ⟨by kernel_rfl, fun w _ => by rw [hbuild.out]; have hys := hY.out; generalize hc.toArray = Y at hys ⊢; go_simp; rw [place_first _ _ _ hys (by simp)]; simp [put, hys]; exact Array.toList_inj.1 (by simp)⟩) hHeld ?_
  simp only [ly, Act.put]
  refine wpAnyH_ready (rs := [7]) (by kernel_rfl) (by simp) (AllReadyH.cons rfl (fun K hK => ?_) AllReadyH.nil)
  have hK' := hid hK
  clear hK
  rw [if_pos (by kernel_rfl)]
  simp only [ly1, ly2, ly3]
  go_simp
  refine (hP.out _ hA3.out).mono ?_
  rintro e W4 ⟨rfl, hA, hg⟩
  have hA4 := hid hA
  have hZ4 := hid (hb_neb hZ3.out hg (by have := hg6'.out; omega))
  have hX4 := hid (hb_neb hX3.out hg (by have := hg6'.out; omega))
  have hG4 := hid (gr_trans hG3.out hg)
  clear hA hg hA3 hZ3 hX3 hG3
  refine hK'.out _ _ (by exact ⟨hX4.out, hX4.out⟩) (fun hHeld => ?_)
  clear hK' K
  refine tkn 8 (.bool (!r)) rfl (by kernel_rfl) (fun _ _ _ h => h) (.inl ⟨by kernel_rfl, fun w _ => by go_simp⟩) hHeld ?_
  simp only [ly, Act.put]
  refine wpAnyH_done (by kernel_rfl) ?_ _
  cases r
  · skip
    go_wp2_with (first
      | ((with_reducible refine at_slot (some 29) ?_); refine wpList_run rfl (.agg z32) W4 (by kernel_rfl) ?_)
      | ((with_reducible refine at_slot none ?_); refine wpList_store_mid rfl 33 (.tmp 4) (.tmp 29) rfl w.heap.size 0 z32 rfl rfl (by exact hZ4.out.there 0 _ (Nat.le_refl 32)) (by kernel_rfl) (by kernel_rfl) ?_; generalize hW9 : World.setCells _ _ _ _ = W9; have hZ9 := hid (Holds.over hZ4.out rfl hW9); have hA9 := hid (hA4.out.far (by have := hsl.out; omega) (by have := hbl.out; omega) hW9); have hG9 := hid (gr_far hG4.out (Nat.le_refl _) hW9); clear hW9)
      | fail)
    exact bodyPost_ret (results_ct rfl _ _ w.heap.size 33 _ (0, 0) _ rfl hZ9.out (.int .i64 1102) rfl Try.underlying33 rfl (by kernel_rfl)) rfl ⟨rfl, hA9.out, hG9.out⟩
  · skip
    go_wp2_with (first
      | ((with_reducible refine at_slot (some 30) ?_); refine wpList_load_mid rfl 33 (.tmp 6) rfl g6 0 rfl hc _ (by exact h_all hX4.out) Try.underlying33 rfl (by exact hC2.out) ?_)
      | ((with_reducible refine at_slot none ?_); refine wpList_store_mid rfl 33 (.tmp 4) (.tmp 30) rfl w.heap.size 0 hc.toArray rfl rfl (by exact hZ4.out.there 0 _ (by rw [List.size_toArray, hC.out.len]; decide)) (by exact hC.out.size) (by exact hC.out.one) ?_; generalize hW9 : World.setCells _ _ _ _ = W9; have hZ9 := hid (Holds.over hZ4.out (by rw [hC.out.len]; rfl) hW9); have hA9 := hid (hA4.out.far (by have := hsl.out; omega) (by have := hbl.out; omega) hW9); have hG9 := hid (gr_far hG4.out (Nat.le_refl _) hW9); clear hW9)
      | fail)
    exact bodyPost_ret (results_ct rfl _ _ w.heap.size 33 _ (0, 0) _ rfl hZ9.out (.int .i64 0) rfl Try.underlying33 rfl (by exact hC.out.size)) rfl ⟨rfl, hA9.out, hG9.out⟩

/-- What Put answers, and what the store holds then. -/
def putAns (most : Nat) (m : Obs) (d : ByteArray) : List UInt8 × Int × Obs :=
  if 4096 < d.size then (List.replicate 32 0, 1100, m) else if (obGet m (obHash d)).isSome then (obHash d, 0, m) else if m.length < most then (obHash d, 0, m ++ [(obHash d, d)]) else (List.replicate 32 0, 1102, m)
theorem z32_eq : z32 = (byteCells (List.replicate 32 0)).toArray := by kernel_rfl
theorem putAns_len (most : Nat) (m : Obs) (d : ByteArray) : (putAns most m d).1.length = 32 := by
  unfold putAns
  split
  · rfl
  · split
    · exact obHash_len d
    · split
      · exact obHash_len d
      · rfl
set_option maxRecDepth 100000 in
set_option maxHeartbeats 1000000 in
theorem obPut_long (s b most : Nat) (m : Obs) (d : ByteArray) (hd : 4096 < d.size) (w : World) (hS : StoreAt w s b most m) :
    Calls Try.prog 15 #[.pointer (some ⟨s, 0, none⟩), .string d] w fun e w' => e = .returned (.tuple #[.agg z32, .int .i64 1100]) ∧ StoreAt w' s b most m ∧ w.grownBy w' (some b) := by
  have hHs := hid (fun W => obHash_no d hd W)
  have hC := hid (show HashCells z32.toList from by rw [z32_eq]; exact hash_cells _ rfl)
  obtain ⟨W0, hW0⟩ : ∃ W0, w.alloc (.cells z32 33) = W0 := ⟨_, rfl⟩
  have hb0 : Below w.heap.size w W0 := by rw [← hW0]; exact (Below.refl _ _).alloc (Nat.le_refl _) _
  have hZ0 := hid (show Holds W0 w.heap.size 33 z32.toList from by rw [← hW0]; exact Holds.new _ _ _)
  have hB0 := hid hb0
  have hW0' := hid hW0
  have hSS := hid hS
  clear hW0 hb0 hS hd
  go_enter Try.func15, Try.ntmps15
  go_wp2_with (first
    | ((with_reducible refine at_slot (some 4) ?_); refine wpList_run rfl (.pointer (some ⟨w.heap.size, 0, none⟩)) (w.alloc (.cells z32 33)) (by kernel_rfl) ?_; rw [hW0'.out])
    | fail)
  refine (hHs.out _).mono ?_
  rintro e W1 ⟨rfl, hb⟩
  have hZ1 := hid (hZ0.out.below hb hZ0.out.lt)
  have hB1 := hid (below_up hb hB0.out)
  clear hb hZ0 hB0
  try (rename_i hKK; refine hKK _ _ ?_; clear hKK)
  go_wp2_with (first
    | ((with_reducible refine at_slot (some 6) ?_); refine wpList_run rfl (.pointer (some ⟨W1.heap.size, 0, none⟩)) (W1.alloc (.cells z32 33)) (by kernel_rfl) ?_)
    | ((with_reducible refine at_slot none ?_); refine wpList_store_mid rfl 33 (.tmp 6) (.tmp 14) rfl W1.heap.size 0 z32 rfl rfl (by exact (Holds.new W1 33 z32).there 0 _ (Nat.le_refl 32)) (by kernel_rfl) (by kernel_rfl) ?_; generalize hW : World.setCells _ _ _ _ = W2; have hb : Below W1.heap.size W1 W2 := below_put ((Below.refl _ _).alloc (Nat.le_refl _) _) (Nat.le_refl _) hW; have hZ2 := hid (hZ1.out.below hb hZ1.out.lt); have hB2 := hid (below_up hb hB1.out); clear hb hZ1 hB1 hW)
    | ((with_reducible refine at_slot (some 18) ?_); refine wpList_run rfl (.agg z32) W2 (by kernel_rfl) ?_)
    | ((with_reducible refine at_slot none ?_); refine wpList_store_mid rfl 33 (.tmp 4) (.tmp 18) rfl w.heap.size 0 z32 rfl rfl (by exact hZ2.out.there 0 _ (Nat.le_refl 32)) (by kernel_rfl) (by kernel_rfl) ?_; generalize hW9 : World.setCells _ _ _ _ = W9; have hZ9 := hid (Holds.over hZ2.out rfl hW9); have hB9 := hid (below_put hB2.out (Nat.le_refl _) hW9); clear hW9)
    | fail)
  exact bodyPost_ret (results_ct rfl _ _ w.heap.size 33 _ (0, 0) _ rfl hZ9.out (.int .i64 1100) rfl Try.underlying33 rfl (by kernel_rfl)) rfl ⟨rfl, hSS.out.on hB9.out, gr_of hB9.out _⟩
theorem obPut_any (s b most : Nat) (m : Obs) (d : ByteArray) (w : World) (hS : StoreAt w s b most m) :
    Calls Try.prog 15 #[.pointer (some ⟨s, 0, none⟩), .string d] w fun e w' => e = .returned (.tuple #[.agg (byteCells (putAns most m d).1).toArray, .int .i64 (putAns most m d).2.1]) ∧ StoreAt w' s b most (putAns most m d).2.2 ∧ w.grownBy w' (some b) := by
  unfold putAns
  by_cases h1 : 4096 < d.size
  · rw [if_pos h1, ← z32_eq]
    exact obPut_long s b most m d h1 w hS
  · rw [if_neg h1]
    cases h2 : obGet m (obHash d) with
    | some x =>
      rw [Option.isSome_some, if_pos rfl]
      exact obPut_by s b most m m d (by omega) true (fun V hV => rowPut_there s b most m _ (obHash_len d) d x h2 V hV) w hS
    | none =>
      rw [Option.isSome_none, if_neg (by decide)]
      by_cases h3 : m.length < most
      · rw [if_pos h3]
        exact obPut_by s b most m _ d (by omega) true (fun V hV => rowPut_new s b most m _ (obHash_len d) d h2 h3 rfl V hV) w hS
      · rw [if_neg h3, ← z32_eq]
        exact obPut_by s b most m m d (by omega) false (fun V hV => rowPut_full s b most m _ (obHash_len d) d h2 (by have := hS.2.2.2.2; omega) V hV) w hS

end Go.Proofs.Ytpjfhbmegabafaa
namespace Go.Proofs.Ytpjfhbmegabafaa
open Go.RowKit
open Go.Lib (strCells strCells_length strCells_oneCell)
attribute [local irreducible] Sha.compress Sha.blocks Sha.sha Sha.pad

set_option maxRecDepth 100000 in
set_option maxHeartbeats 1000000 in
theorem obGet_is (s b most : Nat) (m : Obs) (k : List UInt8) (hk : k.length = 32) (x : ByteArray) (hx : obGet m k = some x) (w : World) (hS : StoreAt w s b most m) : Calls Try.prog 20 #[.pointer (some ⟨s, 0, none⟩), .agg (byteCells k).toArray] w fun e w' => e = .returned (.tuple #[.string x, .int .i64 0]) ∧ Below w.heap.size w w' := by
  obtain ⟨hc, hhc⟩ : ∃ c, byteCells k = c := ⟨_, rfl⟩
  have hC := hid (show HashCells hc from by rw [← hhc]; exact hash_cells k hk)
  have hC2 := hid (show (Try.prog.info? 33).map (·.size) = some hc.length from by have := hC.out.size; rwa [List.size_toArray] at this)
  rw [hhc]
  have hlk := hid (fun V (h : StoreAt V s b most m) => show (Instr.lookup 75 (.map (some b)) (.agg hc.toArray) true).run Try.prog V = .ok (.tuple #[.agg (obCells (k, x)).toArray, .bool true]) V from by rw [← hhc]; exact (h.look hk).2 x hx)
  have hxo : ObC (obCells (k, x)) := ob_cells k hk x
  have h32 : (obCells (k, x))[32]? = some (.string x) := by
    unfold obCells
    rw [List.getElem?_append_right (by rw [byteCells, List.length_map, hk]; exact Nat.le_refl _), byteCells, List.length_map, hk]
    rfl
  obtain ⟨xc, hxc⟩ : ∃ c, obCells (k, x) = c := ⟨_, rfl⟩
  rw [hxc] at hlk hxo h32
  have hX := hid hxo
  have h32' := hid h32
  clear hxc hxo h32
  obtain ⟨W0, hW0⟩ : ∃ W0, w.alloc (.cells hc.toArray 33) = W0 := ⟨_, rfl⟩
  have hb0 : Below w.heap.size w W0 := by rw [← hW0]; exact (Below.refl _ _).alloc (Nat.le_refl _) _
  have hA0 := hid (hS.on hb0)
  have hK0 := hid (show Holds W0 w.heap.size 33 hc from by rw [← hW0]; exact Holds.new w 33 hc.toArray)
  have hB0 := hid hb0
  have hW0' := hid hW0
  have hbl := hid hS.2.1.lt
  have hsl := hid hS.1.lt
  clear hhc hx hk hW0 hb0 hS
  go_enter Try.func20, Try.ntmps20
  go_wp2_with (first
    | ((with_reducible refine at_slot (some 3) ?_); refine wpList_run rfl (.pointer (some ⟨w.heap.size, 0, none⟩)) (w.alloc (.cells hc.toArray 33)) (by kernel_rfl) ?_; rw [hW0'.out])
    | fail)
  have hb : Below W0.heap.size W0 W0.drew := (Below.refl _ _).drew
  have hA1 := hid (hA0.out.on hb)
  have hK1 := hid (hK0.out.below hb hK0.out.lt)
  have hB1 := hid (below_up hb hB0.out)
  clear hb hA0 hK0 hB0
  refine wp_region_held_drew (S := fun V => StoreAt V s b most m ∧ Holds V w.heap.size 33 hc) (by kernel_rfl) (by exact ⟨hA1.out, hK1.out⟩) (fun hHeld => ?_)
  generalize W0.drew = W1 at *
  refine tkn 0 (.pointer (some ⟨s, 0, none⟩)) rfl (by kernel_rfl) (fun _ _ _ h => h) (yieldsIf_move _ rfl rfl rfl) hHeld ?_
  simp only [ly, Act.put]
  refine tkn 1 (.pointer (some ⟨s, 0, none⟩)) rfl (by kernel_rfl) (fun _ _ _ h => h) (.inl ⟨by kernel_rfl, fun w _ => by go_simp⟩) hHeld ?_
  simp only [ly, Act.put]
  refine tkn 2 (.pointer (some ⟨s, 0, none⟩)) rfl (by kernel_rfl) (fun _ _ _ h => h) (.inl ⟨by kernel_rfl, fun w _ => by go_simp⟩) hHeld ?_
  simp only [ly, Act.put]
  refine tkn 3 (.pointer (some ⟨s, 0, none⟩)) rfl (by kernel_rfl) (fun _ _ _ h => h) (.inl ⟨by kernel_rfl, fun w _ => by go_simp⟩) hHeld ?_
  simp only [ly, Act.put]
  refine tkn 4 (.map (some b)) rfl (by kernel_rfl) (fun _ _ _ h => h) (.inl ⟨by kernel_rfl, fun V hS => by have c0 := hS.1.own.cO 0 _ rfl; go_simp⟩) hHeld ?_
  simp only [ly, Act.put]
  refine tkn 5 (.agg hc.toArray) rfl (by kernel_rfl) (fun _ _ _ h => h) (yieldsIf_load_any (by kernel_rfl) _ _ rfl ⟨w.heap.size, 0, none⟩ rfl hc _ (fun V hS => hS.2.anyO) Try.underlying33 rfl (by exact hC2.out)) hHeld ?_
  simp only [ly, Act.put]
  refine tkn 6 (.tuple #[.agg xc.toArray, .bool true]) rfl (by kernel_rfl) (fun _ _ _ h => h) (.inl ⟨by kernel_rfl, fun V hS => by have hl := hlk.out V hS.1; go_simp⟩) hHeld ?_
  simp only [ly, Act.put]
  refine tkn 7 (.tuple #[.agg xc.toArray, .bool true]) rfl (by kernel_rfl) (fun _ _ _ h => h) (yieldsIf_move _ rfl rfl rfl) hHeld ?_
  simp only [ly, Act.put]
  refine tkn 8 (.agg xc.toArray) rfl (by kernel_rfl) (fun _ _ _ h => h) (.inl ⟨by kernel_rfl, fun w _ => by go_simp⟩) hHeld ?_
  simp only [ly, Act.put]
  refine tkn 9 (.bool true) rfl (by kernel_rfl) (fun _ _ _ h => h) (.inl ⟨by kernel_rfl, fun w _ => by go_simp⟩) hHeld ?_
  simp only [ly, Act.put]
  refine wpAnyH_ready (rs := [10]) (by kernel_rfl) (by simp) (AllReadyH.cons rfl (fun K hK => ?_) AllReadyH.nil)
  have hK' := hid hK
  clear hK
  rw [if_pos (by kernel_rfl)]
  simp only [ly1, ly2, ly3]
  refine wp_run' (.pointer (some ⟨W1.heap.size, 0, none⟩)) (W1.alloc (.cells zOb.toArray 85)) (by kernel_rfl) ?_
  obtain ⟨g6, hg6⟩ : ∃ g, W1.heap.size = g := ⟨_, rfl⟩
  have hb : Below W1.heap.size W1 (W1.alloc (.cells zOb.toArray 85)) := (Below.refl _ _).alloc (Nat.le_refl _) _
  have hZz : Holds (W1.alloc (.cells zOb.toArray 85)) W1.heap.size 85 zOb := Holds.new _ _ _
  have hg6' := hid (show w.heap.size < g6 ∧ b < g6 ∧ s < g6 from by have h1 := hK1.out.lt; have h2 := hbl.out; have h3 := hsl.out; omega)
  generalize hXx : W1.alloc (.cells zOb.toArray 85) = W2 at *
  rw [hg6] at hZz ⊢
  clear hXx
  have hA2 := hid (hA1.out.on hb)
  have hK2 := hid (hK1.out.below hb hK1.out.lt)
  have hB2 := hid (below_up hb hB1.out)
  have hZ2 := hid hZz
  clear hb hA1 hK1 hB1 hZz
  clear hg6
  refine hK'.out _ _ (by exact ⟨hA2.out, hK2.out⟩) (fun hHeld => ?_)
  clear hK' K
  refine wpAnyH_ready (rs := [11]) (by kernel_rfl) (by simp) (AllReadyH.cons rfl (fun K hK => ?_) AllReadyH.nil)
  have hK' := hid hK
  clear hK
  rw [if_pos (by kernel_rfl)]
  simp only [ly1, ly2, ly3]
  refine wp_store_mid _ _ _ rfl g6 0 xc.toArray rfl rfl (by exact hZ2.out.there 0 _ (by rw [List.size_toArray, hX.out.len]; exact Nat.le_refl 33)) (by exact hX.out.size) (by exact hX.out.one) ?_
  generalize hXx : World.setCells _ _ _ _ = W3
  have hZ3 := hid (Holds.over (cs := xc) hZ2.out (by first | (rw [hX.out.len]; done) | (rw [hX.out.len]; rfl)) hXx)
  have hK3 := hid (holds_far hK2.out (by have := hg6'.out; omega) hXx)
  have hA3 := hid (hA2.out.far (by have := hg6'.out; omega) (by have := hg6'.out; omega) hXx)
  have hB3 := hid (below_put hB2.out (by have := hg6'.out; omega) hXx)
  clear hXx
  clear hK2 hA2 hB2 hZ2
  refine hK'.out _ _ (by exact ⟨hA3.out, hK3.out⟩) (fun hHeld => ?_)
  clear hK' K
  refine tkn 12 (.bool true) rfl (by kernel_rfl) (fun _ _ _ h => h) (yieldsIf_assign _ rfl rfl rfl) hHeld ?_
  simp only [ly, Act.put]
  refine wpAnyH_done (by kernel_rfl) ?_ _
  have c32 := hZ3.out.cO 32 _ h32'.out
  go_wp2_with fail
  go_ret2
  exact ⟨rfl, hB3.out⟩

set_option maxRecDepth 100000 in
set_option maxHeartbeats 1000000 in
theorem obGet_not (s b most : Nat) (m : Obs) (k : List UInt8) (hk : k.length = 32) (hx : obGet m k = none) (w : World) (hS : StoreAt w s b most m) : Calls Try.prog 20 #[.pointer (some ⟨s, 0, none⟩), .agg (byteCells k).toArray] w fun e w' => e = .returned (.tuple #[.string ⟨#[]⟩, .int .i64 1101]) ∧ Below w.heap.size w w' := by
  obtain ⟨hc, hhc⟩ : ∃ c, byteCells k = c := ⟨_, rfl⟩
  have hC := hid (show HashCells hc from by rw [← hhc]; exact hash_cells k hk)
  have hC2 := hid (show (Try.prog.info? 33).map (·.size) = some hc.length from by have := hC.out.size; rwa [List.size_toArray] at this)
  rw [hhc]
  have hlk := hid (fun V (h : StoreAt V s b most m) => show (Instr.lookup 75 (.map (some b)) (.agg hc.toArray) true).run Try.prog V = .ok (.tuple #[.agg zOb.toArray, .bool false]) V from by rw [← hhc]; exact (h.look hk).1 hx)
  have hX := hid zOb_cells
  obtain ⟨W0, hW0⟩ : ∃ W0, w.alloc (.cells hc.toArray 33) = W0 := ⟨_, rfl⟩
  have hb0 : Below w.heap.size w W0 := by rw [← hW0]; exact (Below.refl _ _).alloc (Nat.le_refl _) _
  have hA0 := hid (hS.on hb0)
  have hK0 := hid (show Holds W0 w.heap.size 33 hc from by rw [← hW0]; exact Holds.new w 33 hc.toArray)
  have hB0 := hid hb0
  have hW0' := hid hW0
  have hbl := hid hS.2.1.lt
  have hsl := hid hS.1.lt
  clear hhc hx hk hW0 hb0 hS
  go_enter Try.func20, Try.ntmps20
  go_wp2_with (first
    | ((with_reducible refine at_slot (some 3) ?_); refine wpList_run rfl (.pointer (some ⟨w.heap.size, 0, none⟩)) (w.alloc (.cells hc.toArray 33)) (by kernel_rfl) ?_; rw [hW0'.out])
    | fail)
  have hb : Below W0.heap.size W0 W0.drew := (Below.refl _ _).drew
  have hA1 := hid (hA0.out.on hb)
  have hK1 := hid (hK0.out.below hb hK0.out.lt)
  have hB1 := hid (below_up hb hB0.out)
  clear hb hA0 hK0 hB0
  refine wp_region_held_drew (S := fun V => StoreAt V s b most m ∧ Holds V w.heap.size 33 hc) (by kernel_rfl) (by exact ⟨hA1.out, hK1.out⟩) (fun hHeld => ?_)
  generalize W0.drew = W1 at *
  refine tkn 0 (.pointer (some ⟨s, 0, none⟩)) rfl (by kernel_rfl) (fun _ _ _ h => h) (yieldsIf_move _ rfl rfl rfl) hHeld ?_
  simp only [ly, Act.put]
  refine tkn 1 (.pointer (some ⟨s, 0, none⟩)) rfl (by kernel_rfl) (fun _ _ _ h => h) (.inl ⟨by kernel_rfl, fun w _ => by go_simp⟩) hHeld ?_
  simp only [ly, Act.put]
  refine tkn 2 (.pointer (some ⟨s, 0, none⟩)) rfl (by kernel_rfl) (fun _ _ _ h => h) (.inl ⟨by kernel_rfl, fun w _ => by go_simp⟩) hHeld ?_
  simp only [ly, Act.put]
  refine tkn 3 (.pointer (some ⟨s, 0, none⟩)) rfl (by kernel_rfl) (fun _ _ _ h => h) (.inl ⟨by kernel_rfl, fun w _ => by go_simp⟩) hHeld ?_
  simp only [ly, Act.put]
  refine tkn 4 (.map (some b)) rfl (by kernel_rfl) (fun _ _ _ h => h) (.inl ⟨by kernel_rfl, fun V hS => by have c0 := hS.1.own.cO 0 _ rfl; go_simp⟩) hHeld ?_
  simp only [ly, Act.put]
  refine tkn 5 (.agg hc.toArray) rfl (by kernel_rfl) (fun _ _ _ h => h) (yieldsIf_load_any (by kernel_rfl) _ _ rfl ⟨w.heap.size, 0, none⟩ rfl hc _ (fun V hS => hS.2.anyO) Try.underlying33 rfl (by exact hC2.out)) hHeld ?_
  simp only [ly, Act.put]
  refine tkn 6 (.tuple #[.agg zOb.toArray, .bool false]) rfl (by kernel_rfl) (fun _ _ _ h => h) (.inl ⟨by kernel_rfl, fun V hS => by have hl := hlk.out V hS.1; go_simp⟩) hHeld ?_
  simp only [ly, Act.put]
  refine tkn 7 (.tuple #[.agg zOb.toArray, .bool false]) rfl (by kernel_rfl) (fun _ _ _ h => h) (yieldsIf_move _ rfl rfl rfl) hHeld ?_
  simp only [ly, Act.put]
  refine tkn 8 (.agg zOb.toArray) rfl (by kernel_rfl) (fun _ _ _ h => h) (.inl ⟨by kernel_rfl, fun w _ => by go_simp⟩) hHeld ?_
  simp only [ly, Act.put]
  refine tkn 9 (.bool false) rfl (by kernel_rfl) (fun _ _ _ h => h) (.inl ⟨by kernel_rfl, fun w _ => by go_simp⟩) hHeld ?_
  simp only [ly, Act.put]
  refine wpAnyH_ready (rs := [10]) (by kernel_rfl) (by simp) (AllReadyH.cons rfl (fun K hK => ?_) AllReadyH.nil)
  have hK' := hid hK
  clear hK
  rw [if_pos (by kernel_rfl)]
  simp only [ly1, ly2, ly3]
  refine wp_run' (.pointer (some ⟨W1.heap.size, 0, none⟩)) (W1.alloc (.cells zOb.toArray 85)) (by kernel_rfl) ?_
  obtain ⟨g6, hg6⟩ : ∃ g, W1.heap.size = g := ⟨_, rfl⟩
  have hb : Below W1.heap.size W1 (W1.alloc (.cells zOb.toArray 85)) := (Below.refl _ _).alloc (Nat.le_refl _) _
  have hZz : Holds (W1.alloc (.cells zOb.toArray 85)) W1.heap.size 85 zOb := Holds.new _ _ _
  have hg6' := hid (show w.heap.size < g6 ∧ b < g6 ∧ s < g6 from by have h1 := hK1.out.lt; have h2 := hbl.out; have h3 := hsl.out; omega)
  generalize hXx : W1.alloc (.cells zOb.toArray 85) = W2 at *
  rw [hg6] at hZz ⊢
  clear hXx
  have hA2 := hid (hA1.out.on hb)
  have hK2 := hid (hK1.out.below hb hK1.out.lt)
  have hB2 := hid (below_up hb hB1.out)
  have hZ2 := hid hZz
  clear hb hA1 hK1 hB1 hZz
  clear hg6
  refine hK'.out _ _ (by exact ⟨hA2.out, hK2.out⟩) (fun hHeld => ?_)
  clear hK' K
  refine wpAnyH_ready (rs := [11]) (by kernel_rfl) (by simp) (AllReadyH.cons rfl (fun K hK => ?_) AllReadyH.nil)
  have hK' := hid hK
  clear hK
  rw [if_pos (by kernel_rfl)]
  simp only [ly1, ly2, ly3]
  refine wp_store_mid _ _ _ rfl g6 0 zOb.toArray rfl rfl (by exact hZ2.out.there 0 _ (by rw [List.size_toArray, hX.out.len]; exact Nat.le_refl 33)) (by exact hX.out.size) (by exact hX.out.one) ?_
  generalize hXx : World.setCells _ _ _ _ = W3
  have hZ3 := hid (Holds.over (cs := zOb) hZ2.out (by first | (rw [hX.out.len]; done) | (rw [hX.out.len]; rfl)) hXx)
  have hK3 := hid (holds_far hK2.out (by have := hg6'.out; omega) hXx)
  have hA3 := hid (hA2.out.far (by have := hg6'.out; omega) (by have := hg6'.out; omega) hXx)
  have hB3 := hid (below_put hB2.out (by have := hg6'.out; omega) hXx)
  clear hXx
  clear hK2 hA2 hB2 hZ2
  refine hK'.out _ _ (by exact ⟨hA3.out, hK3.out⟩) (fun hHeld => ?_)
  clear hK' K
  refine tkn 12 (.bool false) rfl (by kernel_rfl) (fun _ _ _ h => h) (yieldsIf_assign _ rfl rfl rfl) hHeld ?_
  simp only [ly, Act.put]
  refine wpAnyH_done (by kernel_rfl) ?_ _
  go_wp2_with fail
  go_ret2
  exact ⟨rfl, hB3.out⟩

theorem obGet_any (s b most : Nat) (m : Obs) (k : List UInt8) (hk : k.length = 32) (w : World) (hS : StoreAt w s b most m) : Calls Try.prog 20 #[.pointer (some ⟨s, 0, none⟩), .agg (byteCells k).toArray] w fun e w' => e = .returned (.tuple #[.string ((obGet m k).getD ⟨#[]⟩), .int .i64 (if (obGet m k).isSome then 0 else 1101)]) ∧ Below w.heap.size w w' := by
  cases hx : obGet m k with
  | some x => exact obGet_is s b most m k hk x hx w hS
  | none => exact obGet_not s b most m k hk hx w hS
set_option maxRecDepth 100000 in
theorem obLen_any (s b most : Nat) (m : Obs) (w : World) (hS : StoreAt w s b most m) : Calls Try.prog 22 #[.pointer (some ⟨s, 0, none⟩)] w fun e w' => e = .returned (.int .i64 (m.length : Int)) ∧ w' = w := by
  have c0 := hS.own.cO 0 _ rfl
  have hl := hS.len
  clear hS
  go_enter Try.func22, Try.ntmps22
  go_wp2
  go_ret
  exact ⟨rfl, rfl⟩

end Go.Proofs.Ytpjfhbmegabafaa
namespace Go.Proofs.Ytpjfhbmegabafaa
open Go.RowKit
open Go.Lib (strCells strCells_length strCells_oneCell)
attribute [local irreducible] Sha.compress Sha.blocks Sha.sha Sha.pad

/-- What Add answers, and what the store holds then. -/
def addAns (most : Nat) (m : Obs) (k : List UInt8) (d : ByteArray) : Int × Obs := if 4096 < d.size ∨ obHash d ≠ k then (1100, m) else ((putAns most m d).2.1, (putAns most m d).2.2)
set_option maxRecDepth 100000 in
set_option maxHeartbeats 2000000 in
theorem obAdd_long (s b most : Nat) (m : Obs) (k : List UInt8) (hk : k.length = 32) (d : ByteArray) (hd : 4096 < d.size) (w : World) (hS : StoreAt w s b most m) :
    Calls Try.prog 18 #[.pointer (some ⟨s, 0, none⟩), .agg (byteCells k).toArray, .string d] w fun e w' => e = .returned (.int .i64 1100) ∧ StoreAt w' s b most m ∧ w.grownBy w' (some b) := by
  have hHs := hid (fun W => obHash_no d hd W)
  obtain ⟨kc, hkc⟩ : ∃ c, byteCells k = c := ⟨_, rfl⟩
  have hKC := hid (show HashCells kc from by rw [← hkc]; exact hash_cells k hk)
  have hKC2 := hid (show (Try.prog.info? 33).map (·.size) = some kc.length from by have := hKC.out.size; rwa [List.size_toArray] at this)
  rw [hkc]
  obtain ⟨W0, hW0⟩ : ∃ W0, w.alloc (.cells kc.toArray 33) = W0 := ⟨_, rfl⟩
  have hb0 : Below w.heap.size w W0 := by rw [← hW0]; exact (Below.refl _ _).alloc (Nat.le_refl _) _
  have hA0 := hid (hS.on hb0)
  have hK0 := hid (show Holds W0 w.heap.size 33 kc from by rw [← hW0]; exact Holds.new w 33 kc.toArray)
  have hG0 := hid (gr_of hb0 (some b))
  have hW0' := hid hW0
  have hbl := hid hS.2.1.lt
  have hsl := hid hS.1.lt
  clear hkc hk hW0 hb0 hS hd
  go_enter Try.func18, Try.ntmps18
  go_wp2_with (first
    | ((with_reducible refine at_slot (some 4) ?_); refine wpList_run rfl (.pointer (some ⟨w.heap.size, 0, none⟩)) (w.alloc (.cells kc.toArray 33)) (by kernel_rfl) ?_; rw [hW0'.out])
    | fail)
  refine (hHs.out _).mono ?_
  rintro e W1 ⟨rfl, hb⟩
  have hA1 := hid (hA0.out.on hb)
  have hG1 := hid (gr_up hb hG0.out)
  clear hb hA0 hG0 hK0
  try (rename_i hKK; refine hKK _ _ ?_; clear hKK)
  go_wp2_with (first
    | ((with_reducible refine at_slot (some 7) ?_); refine wpList_run rfl (.pointer (some ⟨W1.heap.size, 0, none⟩)) (W1.alloc (.cells z32 33)) (by kernel_rfl) ?_)
    | ((with_reducible refine at_slot none ?_); refine wpList_store_mid rfl 33 (.tmp 7) (.tmp 14) rfl W1.heap.size 0 z32 rfl rfl (by exact (Holds.new W1 33 z32).there 0 _ (Nat.le_refl 32)) (by kernel_rfl) (by kernel_rfl) ?_; generalize hW : World.setCells _ _ _ _ = W2; have hb : Below W1.heap.size W1 W2 := below_put ((Below.refl _ _).alloc (Nat.le_refl _) _) (Nat.le_refl _) hW; have hA2 := hid (hA1.out.on hb); have hG2 := hid (gr_up hb hG1.out); clear hb hA1 hG1; clear hW)
    | fail)
  go_ret
  exact ⟨rfl, hA2.out, hG2.out⟩

set_option maxRecDepth 100000 in
set_option maxHeartbeats 2000000 in
theorem obAdd_other (s b most : Nat) (m : Obs) (k : List UInt8) (hk : k.length = 32) (d : ByteArray) (hd : d.size ≤ 4096) (hkd : obHash d ≠ k) (w : World) (hS : StoreAt w s b most m) :
    Calls Try.prog 18 #[.pointer (some ⟨s, 0, none⟩), .agg (byteCells k).toArray, .string d] w fun e w' => e = .returned (.int .i64 1100) ∧ StoreAt w' s b most m ∧ w.grownBy w' (some b) := by
  have hHs := hid (fun W => obHash_yes d hd W)
  have hl32 := hid (obHash_len d)
  have hk32 := hid hk
  have heq := hid (show (obHash d == k) = false from beq_eq_false_iff_ne.2 hkd)
  obtain ⟨hc, hhc⟩ : ∃ c, byteCells (obHash d) = c := ⟨_, rfl⟩
  have hC := hid (show HashCells hc from by rw [← hhc]; exact hash_cells _ (obHash_len d))
  have hC2 := hid (show (Try.prog.info? 33).map (·.size) = some hc.length from by have := hC.out.size; rwa [List.size_toArray] at this)
  have hHs2 := hHs.out
  rw [hhc] at hHs2
  have hHs := hid hHs2
  have hhc' := hid hhc
  obtain ⟨kc, hkc⟩ : ∃ c, byteCells k = c := ⟨_, rfl⟩
  have hKC := hid (show HashCells kc from by rw [← hkc]; exact hash_cells k hk)
  have hKC2 := hid (show (Try.prog.info? 33).map (·.size) = some kc.length from by have := hKC.out.size; rwa [List.size_toArray] at this)
  rw [hkc]
  have hkc' := hid hkc
  obtain ⟨W0, hW0⟩ : ∃ W0, w.alloc (.cells kc.toArray 33) = W0 := ⟨_, rfl⟩
  have hb0 : Below w.heap.size w W0 := by rw [← hW0]; exact (Below.refl _ _).alloc (Nat.le_refl _) _
  have hA0 := hid (hS.on hb0)
  have hK0 := hid (show Holds W0 w.heap.size 33 kc from by rw [← hW0]; exact Holds.new w 33 kc.toArray)
  have hG0 := hid (gr_of hb0 (some b))
  have hW0' := hid hW0
  have hbl := hid hS.2.1.lt
  have hsl := hid hS.1.lt
  clear hkc hhc hk hW0 hb0 hS hd hkd hHs2
  go_enter Try.func18, Try.ntmps18
  go_wp2_with (first
    | ((with_reducible refine at_slot (some 4) ?_); refine wpList_run rfl (.pointer (some ⟨w.heap.size, 0, none⟩)) (w.alloc (.cells kc.toArray 33)) (by kernel_rfl) ?_; rw [hW0'.out])
    | fail)
  refine (hHs.out _).mono ?_
  rintro e W1 ⟨rfl, hb⟩
  have hA1 := hid (hA0.out.on hb)
  have hK1 := hid (hK0.out.below hb hK0.out.lt)
  have hG1 := hid (gr_up hb hG0.out)
  clear hb hA0 hK0 hG0
  try (rename_i hKK; refine hKK _ _ ?_; clear hKK)
  go_wp2_with (first
    | ((with_reducible refine at_slot (some 7) ?_); refine wpList_run rfl (.pointer (some ⟨W1.heap.size, 0, none⟩)) (W1.alloc (.cells z32 33)) (by kernel_rfl) ?_)
    | ((with_reducible refine at_slot none ?_); refine wpList_store_mid rfl 33 (.tmp 7) (.tmp 14) rfl W1.heap.size 0 hc.toArray rfl rfl (by exact hC.out.there W1) (by exact hC.out.size) (by exact hC.out.one) ?_; generalize hW : World.setCells _ _ _ _ = W2; obtain ⟨hN, hb⟩ := hC.out.new hW; have hA2 := hid (hA1.out.on hb); have hK2 := hid (hK1.out.below hb hK1.out.lt); have hG2 := hid (gr_up hb hG1.out); have hX2 := hid hN; clear hb hA1 hK1 hG1 hN; clear hW)
    | ((with_reducible refine at_slot (some 19) ?_); refine wpList_load_any_on (by kernel_rfl) 33 (.tmp 7) rfl ⟨W1.heap.size, 0, none⟩ rfl hc _ (by exact hX2.out.anyO) Try.underlying33 rfl (by exact hC2.out) ?_)
    | ((with_reducible refine at_slot (some 20) ?_); refine wpList_load_any_on (by kernel_rfl) 33 (.tmp 4) rfl ⟨w.heap.size, 0, none⟩ rfl kc _ (by exact hK2.out.anyO) Try.underlying33 rfl (by exact hKC2.out) ?_)
    | ((with_reducible refine at_slot (some 21) ?_); refine wpList_zneq (by kernel_rfl) (.tmp 19) (.tmp 20) _ rfl (obHash d) k (by exact hl32.out) (by exact hk32.out) false (by exact heq.out) (by rw [hhc'.out]; rfl) (by rw [hkc'.out]; rfl) ?_)
    | fail)
  go_ret
  exact ⟨rfl, hA2.out, hG2.out⟩

set_option maxRecDepth 100000 in
set_option maxHeartbeats 2000000 in
theorem obAdd_own (s b most : Nat) (m m' : Obs) (k : List UInt8) (hk : k.length = 32) (d : ByteArray) (hd : d.size ≤ 4096) (hkd : obHash d = k) (r : Bool) (hP : ∀ V, StoreAt V s b most m → Calls Try.prog 37 #[.pointer (some ⟨s, 0, none⟩), .agg (byteCells (obHash d)).toArray, .agg (obCells (obHash d, d)).toArray] V fun e w' => e = .returned (.bool r) ∧ StoreAt w' s b most m' ∧ V.grownBy w' (some b)) (w : World) (hS : StoreAt w s b most m) :
    Calls Try.prog 18 #[.pointer (some ⟨s, 0, none⟩), .agg (byteCells k).toArray, .string d] w fun e w' => e = .returned (.int .i64 (if r then 0 else 1102)) ∧ StoreAt w' s b most m' ∧ w.grownBy w' (some b) := by
  have hHs := hid (fun W => obHash_yes d hd W)
  have hl32 := hid (obHash_len d)
  have hk32 := hid hk
  have hbuild := hid (ob_build k d)
  rw [hkd] at hP hHs hl32
  have heq := hid (beq_self_eq_true k)
  obtain ⟨oc, hoc⟩ : ∃ c, obCells (k, d) = c := ⟨_, rfl⟩
  rw [hoc] at hP hbuild
  obtain ⟨kc, hkc⟩ : ∃ c, byteCells k = c := ⟨_, rfl⟩
  have hKC := hid (show HashCells kc from by rw [← hkc]; exact hash_cells k hk)
  have hKC2 := hid (show (Try.prog.info? 33).map (·.size) = some kc.length from by have := hKC.out.size; rwa [List.size_toArray] at this)
  have hHs2 := hHs.out
  rw [hkc] at hP hHs2 hbuild ⊢
  have hP := hid hP
  have hHs := hid hHs2
  have hY := hid (show kc.toArray.size = 32 from by rw [List.size_toArray, hKC.out.len])
  have hkc' := hid hkc
  obtain ⟨W0, hW0⟩ : ∃ W0, w.alloc (.cells kc.toArray 33) = W0 := ⟨_, rfl⟩
  have hb0 : Below w.heap.size w W0 := by rw [← hW0]; exact (Below.refl _ _).alloc (Nat.le_refl _) _
  have hA0 := hid (hS.on hb0)
  have hK0 := hid (show Holds W0 w.heap.size 33 kc from by rw [← hW0]; exact Holds.new w 33 kc.toArray)
  have hG0 := hid (gr_of hb0 (some b))
  have hW0' := hid hW0
  have hbl := hid hS.2.1.lt
  have hsl := hid hS.1.lt
  clear hkc hk hW0 hb0 hS hd hkd hHs2
  clear hoc
  go_enter Try.func18, Try.ntmps18
  go_wp2_with (first
    | ((with_reducible refine at_slot (some 4) ?_); refine wpList_run rfl (.pointer (some ⟨w.heap.size, 0, none⟩)) (w.alloc (.cells kc.toArray 33)) (by kernel_rfl) ?_; rw [hW0'.out])
    | fail)
  refine (hHs.out _).mono ?_
  rintro e W1 ⟨rfl, hb⟩
  have hA1 := hid (hA0.out.on hb)
  have hK1 := hid (hK0.out.below hb hK0.out.lt)
  have hG1 := hid (gr_up hb hG0.out)
  clear hb hA0 hK0 hG0
  try (rename_i hKK; refine hKK _ _ ?_; clear hKK)
  go_wp2_with (first
    | ((with_reducible refine at_slot (some 7) ?_); refine wpList_run rfl (.pointer (some ⟨W1.heap.size, 0, none⟩)) (W1.alloc (.cells z32 33)) (by kernel_rfl) ?_)
    | ((with_reducible refine at_slot none ?_); refine wpList_store_mid rfl 33 (.tmp 7) (.tmp 14) rfl W1.heap.size 0 kc.toArray rfl rfl (by exact hKC.out.there W1) (by exact hKC.out.size) (by exact hKC.out.one) ?_; generalize hW : World.setCells _ _ _ _ = W2; obtain ⟨hN, hb⟩ := hKC.out.new hW; have hA2 := hid (hA1.out.on hb); have hK2 := hid (hK1.out.below hb hK1.out.lt); have hG2 := hid (gr_up hb hG1.out); have hX2 := hid hN; clear hb hA1 hK1 hG1 hN; clear hW)
    | ((with_reducible refine at_slot (some 19) ?_); refine wpList_load_any_on (by kernel_rfl) 33 (.tmp 7) rfl ⟨W1.heap.size, 0, none⟩ rfl kc _ (by exact hX2.out.anyO) Try.underlying33 rfl (by exact hKC2.out) ?_)
    | ((with_reducible refine at_slot (some 20) ?_); refine wpList_load_any_on (by kernel_rfl) 33 (.tmp 4) rfl ⟨w.heap.size, 0, none⟩ rfl kc _ (by exact hK2.out.anyO) Try.underlying33 rfl (by exact hKC2.out) ?_)
    | ((with_reducible refine at_slot (some 21) ?_); refine wpList_zneq (by kernel_rfl) (.tmp 19) (.tmp 20) _ rfl k k (by exact hl32.out) (by exact hk32.out) true (by exact heq.out) (by rw [hkc'.out]; rfl) (by rw [hkc'.out]; rfl) ?_)
    | fail)
  have hb : Below W2.heap.size W2 W2.drew := (Below.refl _ _).drew
  have hA3 := hid (hA2.out.on hb)
  have hK3 := hid (hK2.out.below hb hK2.out.lt)
  have hG3 := hid (gr_up hb hG2.out)
  have hX3 := hid (hX2.out.below hb hX2.out.lt)
  clear hb hA2 hK2 hG2 hX2
  refine wp_region_held_drew (S := fun V => Holds V w.heap.size 33 kc ∧ Holds V w.heap.size 33 kc) (by kernel_rfl) (by exact ⟨hK3.out, hK3.out⟩) (fun hHeld => ?_)
  generalize W2.drew = W3 at *
  refine tkn 0 (.pointer (some ⟨s, 0, none⟩)) rfl (by kernel_rfl) (fun _ _ _ h => h) (yieldsIf_move _ rfl rfl rfl) hHeld ?_
  simp only [ly, Act.put]
  refine tkn 1 (.pointer (some ⟨s, 0, none⟩)) rfl (by kernel_rfl) (fun _ _ _ h => h) (.inl ⟨by kernel_rfl, fun w _ => by go_simp⟩) hHeld ?_
  simp only [ly, Act.put]
  refine tkn 2 (.pointer (some ⟨s, 0, none⟩)) rfl (by kernel_rfl) (fun _ _ _ h => h) (.inl ⟨by kernel_rfl, fun w _ => by go_simp⟩) hHeld ?_
  simp only [ly, Act.put]
  refine tkn 3 (.agg kc.toArray) rfl (by kernel_rfl) (fun _ _ _ h => h) (yieldsIf_load_any (by kernel_rfl) _ _ rfl ⟨w.heap.size, 0, none⟩ rfl kc _ (fun V hS => hS.1.anyO) Try.underlying33 rfl (by exact hKC2.out)) hHeld ?_
  simp only [ly, Act.put]
  refine tkn 4 (.agg kc.toArray) rfl (by kernel_rfl) (fun _ _ _ h => h) (yieldsIf_load_any (by kernel_rfl) _ _ rfl ⟨w.heap.size, 0, none⟩ rfl kc _ (fun V hS => hS.1.anyO) Try.underlying33 rfl (by exact hKC2.out)) hHeld ?_
  simp only [ly, Act.put]
  refine tkn 5 (.string d) rfl (by kernel_rfl) (fun _ _ _ h => h) (yieldsIf_move _ rfl rfl rfl) hHeld ?_
  simp only [ly, Act.put]
  refine tkn 6 (.agg oc.toArray) rfl (by kernel_rfl) (fun _ _ _ h => h) (.inl ⟨by kernel_rfl, fun w _ => by rw [hbuild.out]; have hys := hY.out; generalize kc.toArray = Y at hys ⊢; go_simp; rw [place_first _ _ _ hys (by simp)]; simp [put, hys]; exact Array.toList_inj.1 (by simp)⟩) hHeld ?_
  simp only [ly, Act.put]
  refine wpAnyH_ready (rs := [7]) (by kernel_rfl) (by simp) (AllReadyH.cons rfl (fun K hK => ?_) AllReadyH.nil)
  have hK' := hid hK
  clear hK
  rw [if_pos (by kernel_rfl)]
  simp only [ly1, ly2, ly3]
  go_simp
  refine (hP.out _ hA3.out).mono ?_
  rintro e W4 ⟨rfl, hA, hg⟩
  have hA4 := hid hA
  have hK4 := hid (hb_neb hK3.out hg (by have := hbl.out; omega))
  have hG4 := hid (gr_trans hG3.out hg)
  clear hA hg hA3 hK3 hG3 hX3
  refine hK'.out _ _ (by exact ⟨hK4.out, hK4.out⟩) (fun hHeld => ?_)
  clear hK' K
  refine tkn 8 (.bool (!r)) rfl (by kernel_rfl) (fun _ _ _ h => h) (.inl ⟨by kernel_rfl, fun w _ => by go_simp⟩) hHeld ?_
  simp only [ly, Act.put]
  refine wpAnyH_done (by kernel_rfl) ?_ _
  cases r
  · go_wp2_with fail
    go_ret
    exact ⟨rfl, hA4.out, hG4.out⟩
  · go_wp2_with fail
    go_ret
    exact ⟨rfl, hA4.out, hG4.out⟩

theorem obAdd_any (s b most : Nat) (m : Obs) (k : List UInt8) (hk : k.length = 32) (d : ByteArray) (w : World) (hS : StoreAt w s b most m) :
    Calls Try.prog 18 #[.pointer (some ⟨s, 0, none⟩), .agg (byteCells k).toArray, .string d] w fun e w' => e = .returned (.int .i64 (addAns most m k d).1) ∧ StoreAt w' s b most (addAns most m k d).2 ∧ w.grownBy w' (some b) := by
  unfold addAns
  by_cases h1 : 4096 < d.size
  · rw [if_pos (.inl h1)]
    exact obAdd_long s b most m k hk d h1 w hS
  · by_cases h0 : obHash d = k
    · rw [if_neg (fun h => h.elim h1 (fun h => h h0))]
      unfold putAns
      rw [if_neg h1]
      cases h2 : obGet m (obHash d) with
      | some x =>
        rw [Option.isSome_some, if_pos rfl]
        exact obAdd_own s b most m m k hk d (by omega) h0 true (fun V hV => rowPut_there s b most m _ (obHash_len d) d x h2 V hV) w hS
      | none =>
        rw [Option.isSome_none, if_neg (by decide)]
        by_cases h3 : m.length < most
        · rw [if_pos h3]
          exact obAdd_own s b most m _ k hk d (by omega) h0 true (fun V hV => rowPut_new s b most m _ (obHash_len d) d h2 h3 rfl V hV) w hS
        · rw [if_neg h3]
          exact obAdd_own s b most m m k hk d (by omega) h0 false (fun V hV => rowPut_full s b most m _ (obHash_len d) d h2 (by have := hS.2.2.2.2; omega) V hV) w hS
    · rw [if_pos (.inr h0)]
      exact obAdd_other s b most m k hk d (by omega) h0 w hS

end Go.Proofs.Ytpjfhbmegabafaa
