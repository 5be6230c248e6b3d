/- Layer 1's statements: what every program answers that is one; hashes compared. -/
import Derived.Test.YtncfgdhofefkbaaRefSha2
import Derived.Test.YtncfgdhofefkbaaNum0
import Derived.Test.YtncfgdhofefkbaaTwo
import Derived.Stop.BytesEq
import Derived.Deep.RegionHeld3
namespace Go.Proofs.Ytncfgdhofefkbaa
open Go.RowKit

theorem sizeU8_run (w : World) : (sizeOf 5).run Try.prog w = .ok 1 w := by kernel_rfl

theorem sha_length (t : List UInt8) : (Sha.sha t).length = 32 := by
  rw [Sha.sha_def]
  exact s8_bytes_length _

/-- Two hashes compared. -/
theorem hash_eql (s t : List UInt8) (w : World) : (binOp .eql 28 (hashV s) (hashV t)).run Try.prog w = .ok (.bool (Sha.sha s == Sha.sha t)) w :=
  run_eql_bytes w 28 5 32 Try.underlying28 Try.underlying5 sizeU8_run _ _ (sha_length s) (sha_length t)

theorem hash_same (t : List UInt8) (w : World) : (binOp .eql 28 (hashV t) (hashV t)).run Try.prog w = .ok (.bool true) w := by
  rw [hash_eql, beq_self_eq_true]

theorem hash_guard (op : BinOp) (x y : Operand) (s t : List UInt8) (w : World) : (eqGuard op 28 x y (hashV s) (hashV t)).run Try.prog w = .ok () w :=
  run_eqGuard_agg w op 28 x y _ _ (by kernel_rfl)

theorem hash_neq (s t : List UInt8) (w : World) : (binOp .neq 28 (hashV s) (hashV t)).run Try.prog w = .ok (.bool (!(Sha.sha s == Sha.sha t))) w := by
  have h := hash_eql s t w
  unfold hashV at *
  rw [run_eql_struct] at h
  rw [run_neq_struct]
  cases hq : (Op.equalIn 10000 28 (.agg (byteCells (Sha.sha s)).toArray) (.agg (byteCells (Sha.sha t)).toArray)).run Try.prog w with
  | ok b w' =>
    rw [hq] at h
    simp only [Result.andThen_ok, Result.ok.injEq, Value.bool.injEq] at h ⊢
    rw [h.1, h.2]
    exact ⟨rfl, rfl⟩
  | halt e w' =>
    rw [hq] at h
    cases h

/-- The text abc; its digest. -/
def abc : List UInt8 := [97, 98, 99]
def abcSum : List UInt8 := [0xba, 0x78, 0x16, 0xbf, 0x8f, 0x01, 0xcf, 0xea, 0x41, 0x41, 0x40, 0xde, 0x5d, 0xae, 0x22, 0x23, 0xb0, 0x03, 0x61, 0xa3, 0x96, 0x17, 0x7a, 0x9c, 0xb4, 0x10, 0xff, 0x61, 0xf2, 0x00, 0x15, 0xad]
theorem abc_sum : Sha.sha abc = abcSum := by decide +kernel

attribute [local irreducible] Sha.compress Sha.blocks Sha.sha Sha.pad

set_option maxRecDepth 100000 in
set_option maxHeartbeats 1000000 in
theorem awake1_any (w : World) : Calls Try.prog 16 #[] w fun e w' => e = .returned (.bool true) ∧ Below w.heap.size w w' := by
  have hcl : (byteCells (Sha.sha abc)).length = 32 := by rw [byteCells_length, sha_length]
  go_enter Try.func16, Try.ntmps16
  go_wp2_with fail
  refine (sum_any ⟨#[97, 98, 99]⟩ _ (by decide)).mono ?_
  rintro e W1 ⟨rfl, b1⟩
  rename_i hK1
  refine hK1 _ _ ?_
  go_wp2_with (first
    | ((with_reducible refine at_slot (some 1) ?_); refine wpList_run rfl (.pointer (some ⟨W1.heap.size, 0, none⟩)) (W1.alloc (.cells z32 28)) (by kernel_rfl) ?_)
    | ((with_reducible refine at_slot none ?_); refine wpList_store_mid rfl 28 (.tmp 1) (.tmp 3) rfl W1.heap.size 0 (byteCells (Sha.sha abc)).toArray rfl rfl (by exact (Holds.new _ _ _).there 0 _ (by rw [List.size_toArray, hcl]; decide)) (by rw [Try.sizeHash, List.size_toArray, hcl]) (by exact all_oneCell_toArray (byteCells_one _)) ?_; generalize hW2 : World.setCells _ _ _ _ = W2))
  have hH2 : Holds W2 W1.heap.size 28 (byteCells (Sha.sha abc)) := by
    have h1 := (Holds.new W1 28 z32).put 0 (byteCells (Sha.sha abc)) (by rw [hcl]; decide)
    rw [put_all _ _ (by rw [hcl]; decide)] at h1
    exact hW2 ▸ h1
  have hb2 : Below w.heap.size w W2 := hW2 ▸ below_setCells (b1.alloc b1.size _) _ _ _ b1.size
  have hlt2 := hH2.lt
  clear hW2
  generalize W1.heap.size = B at *
  refine (One.new (w0 := W2) (Below.refl _ _)).mono ?_
  rintro e W3 ⟨a, rfl, h3⟩
  go_wp2_with fail
  refine (h3.write ⟨#[97]⟩ (by decide) [97] rfl).mono ?_
  rintro e W4 ⟨rfl, h4⟩
  go_wp2_with fail
  refine (h4.write ⟨#[98, 99]⟩ (by decide) abc rfl).mono ?_
  rintro e W5 ⟨rfl, h5⟩
  have hS : ∀ w', One W2 w' a abc → One W2 w' a abc ∧ w'.rangeAt B 0 (byteCells (Sha.sha abc)) ∧ w'.cell? ⟨B, 0, none⟩ = some (.int .u8 186) ∧ w'.cell? ⟨B, 1, none⟩ = some (.int .u8 120) ∧ w'.cell? ⟨B, 30, none⟩ = some (.int .u8 21) ∧ w'.cell? ⟨B, 31, none⟩ = some (.int .u8 173) := by
    intro w' h
    have hH := hH2.below h.bl hlt2
    have e : byteCells (Sha.sha abc) = byteCells abcSum := by rw [abc_sum]
    refine ⟨h, hH.range 0 _ (fun j _ => by rw [Nat.zero_add]), ?_, ?_, ?_, ?_⟩
    · exact (hH.cell 0).trans (by rw [e]; rfl)
    · exact (hH.cell 1).trans (by rw [e]; rfl)
    · exact (hH.cell 30).trans (by rw [e]; rfl)
    · exact (hH.cell 31).trans (by rw [e]; rfl)
  have heq : ∀ W, (binOp .eql 28 (hashV abc) (.agg (byteCells (Sha.sha abc)).toArray)).run Try.prog W = .ok (.bool true) W := fun W => hash_same abc W
  have hgd : ∀ op x y W, (eqGuard op 28 x y (hashV abc) (.agg (byteCells (Sha.sha abc)).toArray)).run Try.prog W = .ok () W := fun op x y W => hash_guard op x y abc abc W
  have hu := Try.underlying28
  have hi : (Try.prog.info? 28).map (·.size) = some (byteCells (Sha.sha abc)).length := by rw [Try.sizeHash, hcl]
  have hl3 : ((abc.length : Nat) : Int) = 3 := rfl
  generalize byteCells (Sha.sha abc) = cs at *
  generalize abc = T at *
  have hS' := hid hS
  have h5' := hid h5
  have hlT : T.length < 1152921504606846976 := by omega
  have hlT' := hid hlT
  clear hS h3 h4 h5 hH2 hlT
  go_wp2_with fail
  go_region_held3 (fun w' => One W2 w' a T ∧ w'.rangeAt B 0 cs ∧ w'.cell? ⟨B, 0, none⟩ = some (.int .u8 186) ∧ w'.cell? ⟨B, 1, none⟩ = some (.int .u8 120) ∧ w'.cell? ⟨B, 30, none⟩ = some (.int .u8 21) ∧ w'.cell? ⟨B, 31, none⟩ = some (.int .u8 173))
    (first | assumption | exact hS'.out _ h5'.out.drew | exact hS'.out _ (One.up (by assumption) (And.left (by assumption))))
    (first
      | (go_at_call 18; refine (errNum_any _ _).mono ?_; rintro e w' ⟨rfl, rfl⟩)
      | (go_at_call 12; refine (len_any a T _ (One.da (And.left (by assumption)))).mono ?_; rintro e w' ⟨rfl, rfl⟩)
      | (go_at_call 13; refine (dsum_any a T _ (One.da (And.left (by assumption))) hlT'.out).mono ?_; rintro e w' ⟨rfl, hb⟩))
  rename_i hHeld
  go_wp2
  go_ret
  exact ⟨rfl, hb2.trans (hHeld.1.bl.mono hb2.size)⟩

end Go.Proofs.Ytncfgdhofefkbaa
