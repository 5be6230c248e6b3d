/- The statement ShaKnown: its walk. -/
import Derived.Test.YtncfgdhofefkbaaAwake1
import Derived.Test.YtncfgdhofefkbaaShaWords
namespace Go.Proofs.Ytncfgdhofefkbaa
open Go.RowKit
open Go.Lib (strCells)

def nilSt : Sha.S8 := ⟨0xe3b0c442, 0x98fc1c14, 0x9afbf4c8, 0x996fb924, 0x27ae41e4, 0x649b934c, 0xa495991b, 0x7852b855⟩
def abcSt : Sha.S8 := ⟨0xba7816bf, 0x8f01cfea, 0x414140de, 0x5dae2223, 0xb00361a3, 0x96177a9c, 0xb410ff61, 0xf20015ad⟩
def twoSt : Sha.S8 := ⟨0x248d6a61, 0xd20638b8, 0xe5c02693, 0x0c3e6039, 0xa33ce459, 0x64ff2167, 0xf6ecedd4, 0x19db06c1⟩
def twoText : List UInt8 := [97, 98, 99, 100, 98, 99, 100, 101, 99, 100, 101, 102, 100, 101, 102, 103, 101, 102, 103, 104, 102, 103, 104, 105, 103, 104, 105, 106, 104, 105, 106, 107, 105, 106, 107, 108, 106, 107, 108, 109, 107, 108, 109, 110, 108, 109, 110, 111, 109, 110, 111, 112, 110, 111, 112, 113]
theorem sha_nil : Sha.sha [] = nilSt.bytes := by decide +kernel
theorem sha_abc2 : Sha.sha abc = abcSt.bytes := by decide +kernel
theorem sha_two : Sha.sha twoText = twoSt.bytes := by decide +kernel

attribute [local irreducible] Sha.compress Sha.blocks Sha.sha Sha.pad

/-- The digest of a text, from the table of words. -/
theorem words_known (st : Sha.S8) (t : List UInt8) (h : Sha.sha t = st.bytes) (v : Value) (hv : v = s8Agg st) (w : World) :
    Calls Try.prog 17 #[v] w fun e w' => e = .returned (hashV t) ∧ Below w.heap.size w w' := by
  subst hv
  unfold hashV
  rw [h]
  exact words_any st w

theorem One.alloc {w0 w : World} {a : Nat} {t : List UInt8} (h : One w0 w a t) (o : Obj) : One w0 (w.alloc o) a t := One.up ((Below.refl _ _).alloc (Nat.le_refl _) o) h

theorem zeros_after (n : Nat) (t : TypeId) (ht : t = 5) {w w' : World} (hb : Below (w.alloc (.cells (strCells (zeroS n)).toArray t)).heap.size (w.alloc (.cells (strCells (zeroS n)).toArray t)) w') :
    (convert 35 9 (.slice (some ⟨w.heap.size, 0, none⟩) n n)).run Try.prog w' = .ok (.string (zeroS n)) w' := by
  subst ht
  exact zeros_run n w' w.heap.size ((Holds.new w _ _).below hb (by simp))

theorem zeroS_list (n : Nat) : (zeroS n).data.toList = List.replicate n 0 := rfl

set_option maxRecDepth 100000 in
set_option maxHeartbeats 4000000 in
theorem ShaKnown_law {w : World} : Calls Try.prog 5 #[] w fun e w' => e = .returned (.bool true) ∧ Below w.heap.size w w' := by
  have hs1 := fun w => sum_any ⟨#[]⟩ w (by decide)
  have hs2 := fun w => sum_any ⟨#[97, 98, 99]⟩ w (by decide)
  have hs3 := fun w => sum_any ⟨#[97, 98, 99, 100, 98, 99, 100, 101, 99, 100, 101, 102, 100, 101, 102, 103, 101, 102, 103, 104, 102, 103, 104, 105, 103, 104, 105, 106, 104, 105, 106, 107, 105, 106, 107, 108, 106, 107, 108, 109, 107, 108, 109, 110, 108, 109, 110, 111, 109, 110, 111, 112, 110, 111, 112, 113]⟩ w (by decide)
  have hs4 := fun w => sum_any (zeroS 1000) w (by rw [zeroS_size]; omega)
  have e1 : (ByteArray.mk #[]).data.toList = ([] : List UInt8) := rfl
  have e2 : (ByteArray.mk #[97, 98, 99]).data.toList = abc := rfl
  have e3 : (ByteArray.mk #[97, 98, 99, 100, 98, 99, 100, 101, 99, 100, 101, 102, 100, 101, 102, 103, 101, 102, 103, 104, 102, 103, 104, 105, 103, 104, 105, 106, 104, 105, 106, 107, 105, 106, 107, 108, 106, 107, 108, 109, 107, 108, 109, 110, 108, 109, 110, 111, 109, 110, 111, 112, 110, 111, 112, 113]).data.toList = twoText := rfl
  rw [e1] at hs1
  rw [e2] at hs2
  rw [e3] at hs3
  rw [zeroS_list] at hs4
  have hw1 := words_known nilSt [] sha_nil (.agg #[.int .u32 3820012610, .int .u32 2566659092, .int .u32 2600203464, .int .u32 2574235940, .int .u32 665731556, .int .u32 1687917388, .int .u32 2761267483, .int .u32 2018687061]) (by kernel_rfl)
  have hw2 := words_known abcSt abc sha_abc2 (.agg #[.int .u32 3128432319, .int .u32 2399260650, .int .u32 1094795486, .int .u32 1571693091, .int .u32 2953011619, .int .u32 2518121116, .int .u32 3021012833, .int .u32 4060091821]) (by kernel_rfl)
  have hw3 := words_known twoSt twoText sha_two (.agg #[.int .u32 613247585, .int .u32 3523623096, .int .u32 3854575251, .int .u32 205414457, .int .u32 2738676825, .int .u32 1694441831, .int .u32 4142722516, .int .u32 433784513]) (by kernel_rfl)
  have hmk10 := make_run 10 (by omega) 10 rfl
  have hcv10 := fun w => zeros_run 10 (w.alloc (.cells (strCells (zeroS 10)).toArray 5)) w.heap.size (Holds.new w _ _)
  have hz10 := zeroS_list 10
  have hzs := zeroS_size 10
  generalize zeroS 10 = Z at *
  have hs1' := hid hs1
  have hs2' := hid hs2
  have hs3' := hid hs3
  have hs4' := hid hs4
  have hw1' := hid hw1
  have hw2' := hid hw2
  have hw3' := hid hw3
  have hz10' := hid hz10
  have hzs' := hid hzs
  clear hs1 hs2 hs3 hs4 hw1 hw2 hw3 e1 e2 e3 hz10 hzs
  go_enter Try.func5, Try.ntmps5
  go_wp2_with fail
  refine (One.new (w0 := w) (Below.refl _ _)).mono ?_
  rintro e W2 ⟨a, rfl, h2⟩
  have h2' := hid h2
  clear h2
  go_wp2_with fail
  go_loopw [2] (fun i wr => ∃ k : Nat, k ≤ 100 ∧ i = .int .i64 (k : Int) ∧ One w wr a (List.replicate (10 * k) 0)) (fun i _ => 100 - (intOf i).toNat)
  case atStart => exact ⟨0, by omega, rfl, h2'.out⟩
  case round =>
    obtain ⟨k, hk, rfl, hq⟩ := hrel
    by_cases hlt : k < 100
    · have hq' := hid hq
      have l1 : (k : Int) < 100 := by omega
      clear hq
      go_wp2_with fail
      refine ((hq'.out.alloc _).write Z (by rw [List.length_replicate, hzs'.out]; omega) (List.replicate (10 * (k + 1)) 0) (by rw [hz10'.out, List.replicate_append_replicate]; rfl)).mono ?_
      rintro e W4 ⟨rfl, h4⟩
      have h4' := hid h4
      clear h4
      go_wp2_with fail
      go_roundw
      case rel => exact ⟨k + 1, by omega, by go_num, h4'.out⟩
      case measure => simp [intOf]; omega
    · obtain rfl : k = 100 := by omega
      clear hmk10 hcv10
      have hmk := make_run 1000 (by omega) 1000 rfl
      have hcv := fun w => zeros_run 1000 (w.alloc (.cells (strCells (zeroS 1000)).toArray 5)) w.heap.size (Holds.new w _ _)
      have hza := fun w w' h => zeros_after 1000 5 rfl (w := w) (w' := w') h
      have hza' := hid hza
      clear hza
      have g1 := hash_same []
      have g2 := hash_same abc
      have g3 := hash_same twoText
      have g4 := hash_same (List.replicate 1000 (0 : UInt8))
      have k1 := fun op x y => hash_guard op x y [] []
      have k2 := fun op x y => hash_guard op x y abc abc
      have k3 := fun op x y => hash_guard op x y twoText twoText
      have k4 := fun op x y => hash_guard op x y (List.replicate 1000 (0 : UInt8)) (List.replicate 1000 0)
      have hlen : (List.replicate 1000 (0 : UInt8)).length = 1000 := List.length_replicate
      generalize (List.replicate (10 * 100) (0 : UInt8)) = T4 at *
      generalize zeroS 1000 = Z4 at *
      generalize ([] : List UInt8) = T1 at *
      generalize abc = T2 at *
      generalize twoText = T3 at *
      have hq' := hid hq
      have hlen' := hid hlen
      have hlI : ((T4.length : Nat) : Int) = 1000 := by omega
      clear hq hlen
      go_wp2_with fail
      have hq0 := hq'.out.drew
      go_region_with (first
          | (go_at_call 18; refine (errNum_any _ _).mono ?_; rintro e w' ⟨rfl, rfl⟩)
          | (go_at_call 12; refine (len_any a T4 _ (One.da (by first | assumption | exact One.alloc (by assumption) _))).mono ?_; rintro e w' ⟨rfl, rfl⟩)
          | (go_at_call 13; refine (dsum_any a T4 _ (One.da (by first | assumption | exact One.alloc (by assumption) _)) (by rw [hlen'.out]; omega)).mono ?_; rintro e w' ⟨rfl, hb⟩; have hO := One.up hb (by first | assumption | exact One.alloc (by assumption) _); first | have hcv2 := hza'.out _ _ hb | skip)
          | (go_at_call 15; first | with_reducible refine (hs4'.out _).mono ?_ | with_reducible refine (hs1'.out _).mono ?_ | with_reducible refine (hs2'.out _).mono ?_ | with_reducible refine (hs3'.out _).mono ?_
             rintro e w' ⟨rfl, hb⟩; have hO := One.up hb (by first | assumption | exact One.alloc (by assumption) _))
          | (go_at_call 17; first | with_reducible refine (hw1'.out _).mono ?_ | with_reducible refine (hw2'.out _).mono ?_ | with_reducible refine (hw3'.out _).mono ?_
             rintro e w' ⟨rfl, hb⟩; have hO := One.up hb (by assumption)))
      all_goals (go_wp2; go_ret; exact ⟨rfl, One.bl (a := a) (t := T4) (by assumption)⟩)

end Go.Proofs.Ytncfgdhofefkbaa
