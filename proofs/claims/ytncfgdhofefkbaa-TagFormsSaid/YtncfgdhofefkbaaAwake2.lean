/- Layer 2's statements: what every program answers that is one; hashes in variables. -/
import Derived.Test.YtncfgdhofefkbaaRefTag
import Derived.Test.YtncfgdhofefkbaaAwake1
import Derived.Test.YtncfgdhofefkbaaLendT
namespace Go.Proofs.Ytncfgdhofefkbaa
open Go.RowKit

theorem below_up {a b c : World} (h : Below b.heap.size b c) (k : Below a.heap.size a b) : Below a.heap.size a c := k.trans (h.mono k.size)

/-- A hash's value, from its bytes. -/
def hv (C : List UInt8) : Value := .agg (byteCells C).toArray

theorem tag_cells (t : Int) (xs : List ByteArray) : ∃ C : List UInt8, C.length = 32 ∧ (tagAns t xs).1 = hv C := by
  unfold tagAns
  by_cases h : tagMay t xs = true
  · rw [if_pos h]
    exact ⟨_, sha_length _, rfl⟩
  · rw [if_neg h]
    exact ⟨List.replicate 32 0, by simp, by kernel_rfl⟩

theorem hv_same (C : List UInt8) (hC : C.length = 32) (w : World) : (binOp .eql 28 (hv C) (hv C)).run Try.prog w = .ok (.bool true) w := by
  have h := run_eql_bytes w 28 5 32 Try.underlying28 Try.underlying5 sizeU8_run C C hC hC
  rw [beq_self_eq_true] at h
  exact h

theorem hv_guard (op : BinOp) (x y : Operand) (C D : List UInt8) (w : World) : (eqGuard op 28 x y (hv C) (hv D)).run Try.prog w = .ok () w :=
  run_eqGuard_agg w op 28 x y _ _ (by kernel_rfl)

/-- A hash in a variable that was just made. -/
theorem hv_new (w W : World) (C : List UInt8) (hC : C.length = 32) (h : (w.alloc (.cells z32 28)).setCells w.heap.size 0 (byteCells C) = W) : Holds W w.heap.size 28 (byteCells C) ∧ Below w.heap.size w W := by
  subst h
  have hcl : (byteCells C).length = 32 := by rw [byteCells_length, hC]
  have h1 := (Holds.new w 28 z32).put 0 (byteCells C) (by rw [hcl]; decide)
  rw [put_all _ _ (by rw [hcl]; decide)] at h1
  exact ⟨h1, below_setCells ((Below.refl _ _).alloc (Nat.le_refl _) _) _ _ _ (Nat.le_refl _)⟩

theorem hv_there (w : World) (C : List UInt8) (hC : C.length = 32) : (w.alloc (.cells z32 28)).there w.heap.size 0 (byteCells C).toArray.size :=
  (Holds.new w 28 z32).there 0 _ (by rw [List.size_toArray, byteCells_length, hC]; decide)

theorem hv_size (C : List UInt8) (hC : C.length = 32) : (Try.prog.info? 28).map (·.size) = some (byteCells C).toArray.size := by
  rw [Try.infoHash, List.size_toArray, byteCells_length, hC]

theorem hv_size' (C : List UInt8) (hC : C.length = 32) : (Try.prog.info? 28).map (·.size) = some (byteCells C).length := by
  rw [Try.infoHash, byteCells_length, hC]

/-- A hash's cells, whatever they are: what a walk wants of them. -/
structure HashCells (cs : List Value) : Prop where
  len : cs.length = 32
  one : cs.toArray.all (·.oneCell') = true
  eql : ∀ W, (binOp .eql 28 (.agg cs.toArray) (.agg cs.toArray)).run Try.prog W = .ok (.bool true) W
  guard : ∀ op x y W, (eqGuard op 28 x y (.agg cs.toArray) (.agg cs.toArray)).run Try.prog W = .ok () W

theorem hash_cells (C : List UInt8) (hC : C.length = 32) : HashCells (byteCells C) :=
  ⟨by rw [byteCells_length, hC], all_oneCell_toArray (byteCells_one C), hv_same C hC, fun op x y W => hv_guard op x y C C W⟩

theorem tag_hash (t : Int) (xs : List ByteArray) : ∃ cs, HashCells cs ∧ (tagAns t xs).1 = .agg cs.toArray := by
  obtain ⟨C, hC, h⟩ := tag_cells t xs
  exact ⟨_, hash_cells C hC, h⟩

theorem HashCells.there {cs : List Value} (h : HashCells cs) (w : World) : (w.alloc (.cells z32 28)).there w.heap.size 0 cs.toArray.size :=
  (Holds.new w 28 z32).there 0 _ (by rw [List.size_toArray, h.len]; decide)

theorem HashCells.size {cs : List Value} (h : HashCells cs) : (Try.prog.info? 28).map (·.size) = some cs.toArray.size := by
  rw [Try.infoHash, List.size_toArray, h.len]

theorem HashCells.size' {cs : List Value} (h : HashCells cs) : (Try.prog.info? 28).map (·.size) = some cs.length := by
  rw [Try.infoHash, h.len]

theorem HashCells.new {cs : List Value} (hc : HashCells cs) {w W : World} (h : (w.alloc (.cells z32 28)).setCells w.heap.size 0 cs = W) : Holds W w.heap.size 28 cs ∧ Below w.heap.size w W := by
  subst h
  have h1 := (Holds.new w 28 z32).put 0 cs (by rw [hc.len]; decide)
  rw [put_all _ _ (by rw [hc.len]; decide)] at h1
  exact ⟨h1, below_setCells ((Below.refl _ _).alloc (Nat.le_refl _) _) _ _ _ (Nat.le_refl _)⟩

theorem Holds.rangeAll {w : World} {g : Nat} {t : TypeId} {cs : List Value} (h : Holds w g t cs) : w.rangeAt g 0 cs := h.range 0 _ (fun j _ => by rw [Nat.zero_add])

attribute [local irreducible] Sha.compress Sha.blocks Sha.sha Sha.pad

def abS : List ByteArray := [⟨#[97, 98]⟩, ⟨#[]⟩]
def aS : List ByteArray := [⟨#[97]⟩]
def abT : List UInt8 := [0, 0, 0, 0, 2, 97, 98, 0, 0, 0, 0]

theorem ab_ans : tagAns 0 abS = (hashV abT, 0) := by
  unfold tagAns
  rw [if_pos (by decide)]
  have e : tagL (0 : Int).toNat abS = abT := by decide
  rw [e]

theorem a_ans : tagAns (-1) aS = (.agg z32, 200) := by
  unfold tagAns
  rw [if_neg (by decide)]

set_option maxRecDepth 100000 in
set_option maxHeartbeats 1000000 in
theorem awake2_any (w : World) : Calls Try.prog 23 #[] w fun e w' => e = .returned (.bool true) ∧ Below w.heap.size w w' := by
  obtain ⟨W1, hW1⟩ : ∃ W1, w.alloc (.cells (strs abS).toArray 9) = W1 := ⟨_, rfl⟩
  have hb1 : Below w.heap.size w W1 := by rw [← hW1]; exact (Below.refl _ _).alloc (Nat.le_refl _) _
  have hT1 : Texts W1 W1.heap.size (some ⟨w.heap.size, 0, none⟩) 2 abS := by
    have h := At.new w (strs abS) 2 9 (strs abS).toArray rfl rfl
    rw [hW1] at h
    have e : W1.heap.size = w.heap.size + 1 := by rw [← hW1]; simp
    rw [e]
    exact h
  have hc1 := hid (tagSum_any 0 (some ⟨w.heap.size, 0, none⟩) 2 2 abS W1 hT1 (by omega) (by intro s hs; simp [abS] at hs; rcases hs with rfl | rfl <;> decide))
  rw [ab_ans] at hc1
  have hcl : (byteCells (Sha.sha abT)).length = 32 := by rw [byteCells_length, sha_length]
  have hCl : (Sha.sha abT).length = 32 := sha_length _
  have hW1' := hid hW1
  have hb1' := hid hb1
  clear hW1 hT1 hb1
  go_enter Try.func23, Try.ntmps23
  go_wp2_with ((with_reducible refine at_slot (some 6) ?_); refine wpList_run rfl (.slice (some ⟨w.heap.size, 0, none⟩) 2 2) (w.alloc (.cells (strs abS).toArray 9)) (by kernel_rfl) ?_; rw [hW1'.out])
  refine hc1.out.mono ?_
  rintro e W2 ⟨rfl, hb2⟩
  rename_i hK1
  refine hK1 _ _ ?_
  go_wp2_with (first
    | ((with_reducible refine at_slot (some 1) ?_); refine wpList_run rfl (.pointer (some ⟨W2.heap.size, 0, none⟩)) (W2.alloc (.cells z32 28)) (by kernel_rfl) ?_)
    | ((with_reducible refine at_slot none ?_); refine wpList_store_mid rfl 28 (.tmp 1) (.tmp 8) rfl W2.heap.size 0 (byteCells (Sha.sha abT)).toArray rfl rfl (by exact hv_there W2 _ hCl) (by exact hv_size _ hCl) (by exact all_oneCell_toArray (byteCells_one _)) ?_; generalize hW3 : World.setCells _ _ _ _ = W3))
  obtain ⟨hH3, hb3⟩ := hv_new W2 W3 _ hCl hW3
  have hb3' := hid (hb1'.out.trans ((hb2.mono hb1'.out.size).trans (hb3.mono (Nat.le_trans hb1'.out.size hb2.size))))
  have hH3' := hid hH3
  clear hW3 hH3 hb3 hb2
  have hb4 : Below W3.heap.size W3 (W3.alloc (.cells #[.string ⟨#[97]⟩] 9)) := (Below.refl _ _).alloc (Nat.le_refl _) _
  have hT4 : Texts (W3.alloc (.cells #[.string ⟨#[97]⟩] 9)) (W3.alloc (.cells #[.string ⟨#[97]⟩] 9)).heap.size (some ⟨W3.heap.size, 0, none⟩) 1 aS := by
    have h := At.new W3 (strs aS) 1 9 #[.string ⟨#[97]⟩] rfl rfl
    rw [World.size_alloc]
    exact h
  have hc2 := tagSum_any (-1) (some ⟨W3.heap.size, 0, none⟩) 1 1 aS _ hT4 (by omega) (by intro s hs; simp [aS] at hs; subst hs; decide)
  rw [a_ans] at hc2
  refine hc2.mono ?_
  rintro e W4 ⟨rfl, hb5⟩
  have hH4 := hid (hH3'.out.below (hb4.trans (hb5.mono hb4.size)) hH3'.out.lt)
  have hb5' := hid (hb3'.out.trans ((hb4.trans (hb5.mono hb4.size)).mono hb3'.out.size))
  clear hc2 hT4 hb4 hb5
  have hthz : (W4.alloc (.cells z32 28)).there W4.heap.size 0 z32.size := (Holds.new W4 28 z32).there 0 _ (by decide)
  have hz1 : z32.all (·.oneCell') = true := by kernel_rfl
  rename_i hK2
  refine hK2 _ _ ?_
  go_wp2_with (first
    | ((with_reducible refine at_slot (some 3) ?_); refine wpList_run rfl (.pointer (some ⟨W4.heap.size, 0, none⟩)) (W4.alloc (.cells z32 28)) (by kernel_rfl) ?_)
    | ((with_reducible refine at_slot none ?_); refine wpList_store_mid rfl 28 (.tmp 3) (.tmp 13) rfl W4.heap.size 0 z32 rfl rfl (by exact hthz) (by exact Try.infoHash) (by exact hz1) ?_; generalize hW5 : World.setCells _ _ _ _ = W5))
  have hb6 : Below W4.heap.size W4 W5 := hW5 ▸ below_setCells ((Below.refl _ _).alloc (Nat.le_refl _) _) _ _ _ (Nat.le_refl _)
  have hH5 := hH4.out.below hb6 hH4.out.lt
  have hb7 := hb5'.out.trans (hb6.mono hb5'.out.size)
  have hlt5 := hH5.lt
  have hS : ∀ w', Below W5.heap.size W5 w' → Below W5.heap.size W5 w' ∧ w'.rangeAt W2.heap.size 0 (byteCells (Sha.sha abT)) := fun w' h => ⟨h, (hH5.below h hlt5).range 0 _ (fun j _ => by rw [Nat.zero_add])⟩
  have hS' := hid hS
  have hb7' := hid hb7
  have heq : ∀ W, (binOp .eql 28 (.agg (byteCells (Sha.sha abT)).toArray) (hashV abT)).run Try.prog W = .ok (.bool true) W := fun W => hash_same abT W
  have hgd : ∀ op x y W, (eqGuard op 28 x y (.agg (byteCells (Sha.sha abT)).toArray) (hashV abT)).run Try.prog W = .ok () W := fun op x y W => hash_guard op x y abT abT W
  have hu := Try.underlying28
  have hi : (Try.prog.info? 28).map (·.size) = some (byteCells (Sha.sha abT)).length := by rw [Try.sizeHash, hcl]
  have hsh := hid (fun w => rsha_any ⟨#[0, 0, 0, 0, 2, 97, 98, 0, 0, 0, 0]⟩ w (by decide))
  have eT : (ByteArray.mk #[0, 0, 0, 0, 2, 97, 98, 0, 0, 0, 0]).data.toList = abT := rfl
  rw [eT] at hsh
  generalize byteCells (Sha.sha abT) = cs at *
  generalize abT = T at *
  clear hS hb6 hH5 hb7 hW5 eT hthz hz1
  go_region_held3 (fun w' => Below W5.heap.size W5 w' ∧ w'.rangeAt W2.heap.size 0 cs)
    (first | assumption | exact hS'.out _ (Below.refl _ _).drew | exact hS'.out _ (below_up (by assumption) (And.left (by assumption))))
    (first
      | (go_at_call 18; refine (errNum_any _ _).mono ?_; rintro e w' ⟨rfl, rfl⟩)
      | (go_at_call 14; refine (hsh.out _).mono ?_; rintro e w' ⟨rfl, hb⟩))
  rename_i hHeld
  go_wp2
  go_ret
  exact ⟨rfl, hb7'.out.trans (hHeld.1.mono hb7'.out.size)⟩

end Go.Proofs.Ytncfgdhofefkbaa
