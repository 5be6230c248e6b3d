/- Layer 4, the reference's side: Params, otsMay, T, H, private, steps.
   Layer 4, the reference's side: OtsPublic, the refusals.
   Layer 4, the program's side: num.Of.
   Rows of bytes of a call's own that came from a text: what is frozen of such a block lies behind its cells. No function of the program is named here.
   LM-OTS: a signature's parts; what was signed makes the public key. No function of the program is named here.
   Layer 4, the program's side: kindOf.
   Layer 5, the reference: types.
   Layer 5: rows of a tree's nodes. -/
import Derived.Test.YtmfajekfipfjpaaGreatOtsA
import Derived.Test.YtmfajekfipfjpaaGreatRefSha2
import Derived.Test.YtmfajekfipfjpaaGreatOtsPr
import Derived.Test.YtmfajekfipfjpaaGreatOtsB
import Derived.Test.YtmfajekfipfjpaaGreatBytes
import Derived.Deep.AppendLies
import Derived.Lib.FrozenHead
import Derived.Deep.RegionHeld3
import Derived.Test.YtmfajekfipfjpaaGreatLmCo
import Derived.Test.YtmfajekfipfjpaaGreatLmNo
set_option maxRecDepth 100000
namespace Go.Proofs.YtmfajekfipfjpaaGreat
open Go.RowKit
open Go.Lib (strCells strCells_length strCells_oneCell)
attribute [local irreducible] Sha.compress Sha.blocks Sha.sha Sha.pad

/-- What Params answers. -/
def refPar (kind : Int) : Value := match Ots.par kind with
  | some o => .tuple #[.int .i64 (o.w : Int), .int .i64 (o.p : Int), .int .i64 (o.ls : Int)]
  | none => .tuple #[.int .i64 0, .int .i64 0, .int .i64 0]

theorem Params_any (kind : Int) (w : World) : Calls Tryz.prog 54 #[.int .i64 kind] w fun e w' => e = .returned (refPar kind) ∧ w' = w := by
  by_cases h3 : kind = 3
  · subst h3
    go_enter Tryz.func54, Tryz.ntmps54
    go_wp2
    exact bodyPost_ret (results_ttt rfl _ _ (.int .i64 4) (.int .i64 67) (.int .i64 4) rfl rfl rfl) rfl ⟨rfl, rfl⟩
  · by_cases h4 : kind = 4
    · subst h4
      go_enter Tryz.func54, Tryz.ntmps54
      go_wp2
      exact bodyPost_ret (results_ttt rfl _ _ (.int .i64 8) (.int .i64 34) (.int .i64 0) rfl rfl rfl) rfl ⟨rfl, rfl⟩
    · have e : refPar kind = .tuple #[.int .i64 0, .int .i64 0, .int .i64 0] := by unfold refPar Ots.par; rw [if_neg h3, if_neg h4]
      have h3' : (kind == 3) = false := by simpa using h3
      have h4' : (kind == 4) = false := by simpa using h4
      have e' := hid e
      clear e
      go_enter Tryz.func54, Tryz.ntmps54
      go_wp2
      exact bodyPost_ret (results_ttt rfl _ _ (.int .i64 0) (.int .i64 0) (.int .i64 0) rfl rfl rfl) rfl ⟨by rw [e'.out], rfl⟩

theorem otsMay_any (id : ByteArray) (q : Int) (w : World) : Calls Tryz.prog 74 #[.string id, .int .i64 q] w fun e w' => e = .returned (.bool (Ots.may id.size q)) ∧ w' = w := by
  have e : Ots.may id.size q = decide (id.size = 16 ∧ 0 ≤ q ∧ q ≤ 4294967295) := rfl
  rw [e]
  by_cases h1 : id.size = 16
  · by_cases h2 : 0 ≤ q
    · by_cases h3 : q ≤ 4294967295
      · rw [decide_eq_true ⟨h1, h2, h3⟩]
        go_enter Tryz.func74, Tryz.ntmps74
        go_wp2
        go_ret
        exact ⟨rfl, rfl⟩
      · rw [decide_eq_false (fun h => h3 h.2.2)]
        have h3' : decide (q ≤ 4294967295) = false := decide_eq_false h3
        go_enter Tryz.func74, Tryz.ntmps74
        go_wp2
        go_ret
        exact ⟨rfl, rfl⟩
    · rw [decide_eq_false (fun h => h2 h.2.1)]
      have h2' : decide (0 ≤ q) = false := decide_eq_false h2
      go_enter Tryz.func74, Tryz.ntmps74
      go_wp2
      go_ret
      exact ⟨rfl, rfl⟩
  · rw [decide_eq_false (fun h => h1 h.1)]
    have h1' : ((id.size : Int) == 16) = false := by
      simp
      omega
    go_enter Tryz.func74, Tryz.ntmps74
    go_wp2
    go_ret
    exact ⟨rfl, rfl⟩

theorem rH_any (x : ByteArray) (w : World) (hx : x.size ≤ 1000000000000) : Calls Tryz.prog 56 #[.string x] w fun e w' => e = .returned (.string (txt (Sha.sha x.data.toList))) ∧ Below w.heap.size w w' := by
  have hs := hid (fun W => rsha_any x W (by omega))
  have ht := hid (fun W => tT_any (Sha.sha x.data.toList) (sha_len32 _) W)
  unfold hashV at hs
  unfold hv at ht
  generalize Sha.sha x.data.toList = l at *
  go_enter Tryz.func56, Tryz.ntmps56
  go_wp2_with fail
  refine (hs.out _).mono ?_
  rintro e W2 ⟨rfl, hb2⟩
  have hb2' := hid hb2
  clear hb2
  rename_i hK1
  refine hK1 _ _ ?_
  clear hK1
  go_wp2_with fail
  refine (ht.out _).mono ?_
  rintro e W3 ⟨rfl, hb3⟩
  have hb3' := hid (below_up hb3 hb2'.out)
  clear hb3
  go_wp2_with fail
  go_ret
  exact ⟨rfl, hb3'.out⟩

theorem rPriv_any (head seed : ByteArray) (i : Nat) (w : World) (hi : i < 1000000) (hh : head.size ≤ 1000) (hs : seed.size ≤ 1000000) :
    Calls Tryz.prog 77 #[.string head, .int .i64 (i : Int), .string seed] w fun e w' => e = .returned (.string (txt (Ots.priv head.data.toList i seed.data.toList))) ∧ Below w.heap.size w w' := by
  obtain ⟨X, hX⟩ : ∃ X : ByteArray, head ++ be 2 i ++ ⟨#[255]⟩ ++ seed = X := ⟨_, rfl⟩
  have h255 : (⟨#[255]⟩ : ByteArray).size = 1 := rfl
  have hXl : X.data.toList = head.data.toList ++ beL 2 i ++ [255] ++ seed.data.toList := by
    rw [← hX]
    simp only [ByteArray.data_append, Array.toList_append]
    rfl
  have hXs : X.size ≤ 1001003 := by
    rw [← hX, ByteArray.size_append, ByteArray.size_append, ByteArray.size_append, be_size, h255]
    omega
  have hbe := hid (fun W => Be_any (i : Int) 2 2 rfl (by decide) i rfl (by omega) W)
  have hr := hid (fun W => rH_any X W (by omega))
  have hp : Sha.sha X.data.toList = Ots.priv head.data.toList i seed.data.toList := by rw [hXl]; rfl
  rw [hp] at hr
  generalize Ots.priv head.data.toList i seed.data.toList = out at *
  have hz1 : head.size + (be 2 i).size ≤ 9223372036854775807 := by rw [be_size]; omega
  have hz2 : (head ++ be 2 i).size + (⟨#[255]⟩ : ByteArray).size ≤ 9223372036854775807 := by rw [ByteArray.size_append, be_size, h255]; omega
  have hz3 : (head ++ be 2 i ++ ⟨#[255]⟩).size + seed.size ≤ 9223372036854775807 := by rw [ByteArray.size_append, ByteArray.size_append, be_size, h255]; omega
  have hX' := hid hX
  clear hX hp hXl
  go_enter Tryz.func77, Tryz.ntmps77
  go_wp2_with fail
  refine (hbe.out _).mono ?_
  rintro e W2 ⟨rfl, hb2⟩
  have hb2' := hid hb2
  clear hb2
  go_wp2_with fail
  rw [hX'.out]
  refine (hr.out _).mono ?_
  rintro e W3 ⟨rfl, hb3⟩
  have hb3' := hid (below_up hb3 hb2'.out)
  clear hb3
  go_wp2_with fail
  go_ret
  exact ⟨rfl, hb3'.out⟩

/-- A step as the reference tells it. -/
theorem rStep_any (head x : ByteArray) (i j : Nat) (hh : head.size ≤ 1000) (hx : x.size = 32) :
    ∃ X : ByteArray, head ++ be 2 i ++ be 1 j ++ x = X ∧ head.size + (be 2 i).size ≤ 9223372036854775807 ∧ (head ++ be 2 i).size + (be 1 j).size ≤ 9223372036854775807 ∧ (head ++ be 2 i ++ be 1 j).size + x.size ≤ 9223372036854775807 ∧
      ∀ W, Calls Tryz.prog 56 #[.string X] W fun e w' => e = .returned (.string (txt (Ots.step head.data.toList i j x.data.toList))) ∧ Below W.heap.size W w' := by
  refine ⟨_, rfl, by rw [be_size]; omega, by rw [ByteArray.size_append, be_size, be_size]; omega, by rw [ByteArray.size_append, ByteArray.size_append, be_size, be_size]; omega, fun W => ?_⟩
  have h := rH_any (head ++ be 2 i ++ be 1 j ++ x) W (by rw [ByteArray.size_append, ByteArray.size_append, ByteArray.size_append, be_size, be_size]; omega)
  have e : (head ++ be 2 i ++ be 1 j ++ x).data.toList = head.data.toList ++ beL 2 i ++ beL 1 j ++ x.data.toList := by
    simp only [ByteArray.data_append, Array.toList_append]
    rfl
  rw [e] at h
  exact h

set_option maxHeartbeats 1000000 in
theorem rSteps_any (head : ByteArray) (i f t : Nat) (v : List UInt8) (w : World) (hv32 : v.length = 32) (hh : head.size ≤ 1000) (hi : i < 1000000) (ht : t ≤ 1000) (hf : f ≤ 1000) :
    Calls Tryz.prog 76 #[.string head, .int .i64 (i : Int), .int .i64 (f : Int), .int .i64 (t : Int), .string (txt v)] w fun e w' => e = .returned (.string (txt (Ots.steps head.data.toList i f (t - f) v))) ∧ Below w.heap.size w w' := by
  have hsl : ∀ k, (Ots.steps head.data.toList i f k v).length = 32 := steps_len _ _ _ _ hv32
  have hstep := hid (fun (k : Nat) => rStep_any head (txt (Ots.steps head.data.toList i f k v)) i (f + k) hh (by rw [txt_size, hsl k]))
  have hnx : ∀ k, Ots.step head.data.toList i (f + k) (txt (Ots.steps head.data.toList i f k v)).data.toList = Ots.steps head.data.toList i f (k + 1) v := fun k => by rw [txt_list]; rfl
  have h0 : Ots.steps head.data.toList i f 0 v = v := rfl
  have hnx' := hid hnx
  have h0' := hid h0
  clear hnx h0 hsl
  have hbe2 := hid (fun W => Be_any (i : Int) 2 2 rfl (by decide) i rfl (by omega) W)
  generalize Ots.steps head.data.toList i f = st at *
  go_enter Tryz.func76, Tryz.ntmps76
  go_wp2_with fail
  go_loopw [11, 4] (fun j x wr => ∃ k : Nat, k ≤ t - f ∧ j = .int .i64 ((f + k : Nat) : Int) ∧ x = .string (txt (st k v)) ∧ Below w.heap.size w wr) (fun j _ _ => t - (intOf j).toNat)
  case atStart => exact ⟨0, Nat.zero_le _, rfl, by rw [h0'.out], Below.refl _ _⟩
  case round =>
    obtain ⟨k, hk, rfl, rfl, hB⟩ := hrel
    by_cases hlt : f + k < t
    · have hlt' : ((f + k : Nat) : Int) < (t : Int) := by omega
      have hsum := IntWalk.i64_in (((f + k : Nat) : Int) + 1) (by omega)
      obtain ⟨X, hX, z1, z2, z3, hH⟩ := hstep.out k
      have hX' := hid hX
      have hH' := hid hH
      have hbe1 := hid (fun W => Be_any ((f + k : Nat) : Int) 1 1 rfl (by decide) (f + k) rfl (by omega) W)
      have hB' := hid hB
      rw [hnx'.out k] at hH'
      clear hX hH hB
      generalize hj : f + k = j at *
      generalize hvn : st (k + 1) v = vn at *
      go_wp2_with fail
      refine (hbe2.out _).mono ?_
      rintro e W2 ⟨rfl, hb2⟩
      have hB2 := hid (hB'.out.trans (hb2.mono hB'.out.size))
      clear hb2
      go_wp2_with fail
      refine (hbe1.out _).mono ?_
      rintro e W3 ⟨rfl, hb3⟩
      have hB3 := hid (hB2.out.trans (hb3.mono hB2.out.size))
      clear hb3
      go_wp2_with fail
      rw [hX'.out]
      refine (hH'.out _).mono ?_
      rintro e W4 ⟨rfl, hb4⟩
      have hB4 := hid (hB3.out.trans (hb4.mono hB3.out.size))
      clear hb4
      go_wp2_with fail
      go_roundw
      case rel => exact ⟨k + 1, by omega, by go_num, by rw [hvn], hB4.out⟩
      case measure => simp [intOf]; omega
    · obtain rfl : k = t - f := by omega
      have hB' := hid hB
      clear hB
      have hno : ¬ ((f + (t - f) : Nat) : Int) < (t : Int) := by omega
      go_wp2_with fail
      go_ret
      exact ⟨rfl, hB'.out⟩

end Go.Proofs.YtmfajekfipfjpaaGreat
namespace Go.Proofs.YtmfajekfipfjpaaGreat
open Go.RowKit
open Go.Lib (strCells strCells_length strCells_oneCell)
attribute [local irreducible] Sha.compress Sha.blocks Sha.sha Sha.pad

end Go.Proofs.YtmfajekfipfjpaaGreat
namespace Go.Proofs.YtmfajekfipfjpaaGreat
open Go.RowKit
open Go.Lib (strCells strCells_length strCells_oneCell)
attribute [local irreducible] Sha.compress Sha.blocks Sha.sha Sha.pad

theorem ba_ext {a b : ByteArray} (h : a.data.toList = b.data.toList) : a = b := ByteArray.ext (Array.toList_inj.1 h)
theorem lead82 : be 2 33410 = ⟨#[130, 130]⟩ := by decide
theorem lead83 : be 2 33667 = ⟨#[131, 131]⟩ := by decide
theorem leaf_text (id : ByteArray) (r : Nat) (y : List UInt8) : Sha.sha (id ++ be 4 r ++ ⟨#[130, 130]⟩ ++ txt y).data.toList = Lms.leaf id.data.toList r y := by
  rw [← lead82]
  exact leafX_sha id r y
theorem join_text (id : ByteArray) (r : Nat) (a b : List UInt8) : Sha.sha (id ++ be 4 r ++ ⟨#[131, 131]⟩ ++ txt a ++ txt b).data.toList = Lms.join id.data.toList r a b := by
  rw [← lead83]
  exact joinX_sha id r a b

theorem rKindOf_any (h : Nat) (hh : h ≤ 1000) (w : World) : Calls Tryz.prog 33 #[.int .i64 (h : Int)] w fun e w' => e = .returned (.int .i64 (Lms.typ h : Int)) ∧ w' = w := by
  by_cases h5 : h = 5
  · subst h5
    go_enter Tryz.func33, Tryz.ntmps33
    go_wp2
    go_ret
    exact ⟨rfl, rfl⟩
  · have h5i : ((h : Int) == 5) = false := by rw [beq_eq_false_iff_ne]; omega
    have hw := IntWalk.i64_in (4026531840 + (h : Int)) (by omega)
    have e : Lms.typ h = 4026531840 + h := if_neg h5
    rw [e]
    go_enter Tryz.func33, Tryz.ntmps33
    go_wp2
    go_ret
    exact ⟨by go_num, rfl⟩
end Go.Proofs.YtmfajekfipfjpaaGreat
namespace Go.Proofs.YtmfajekfipfjpaaGreat
open Go.RowKit
open Go.Lib (strCells strCells_length strCells_oneCell)
attribute [local irreducible] Sha.compress Sha.blocks Sha.sha Sha.pad

/-- A row of nodes, made from the end down to r. -/
def nodeC (nd : Nat → List UInt8) (n r : Nat) : List Value := (List.range n).map fun i => .string (if r < i then txt (nd i) else ⟨#[]⟩)
theorem nodeC_len (nd : Nat → List UInt8) (n r : Nat) : (nodeC nd n r).length = n := by simp [nodeC]
theorem nodeC_at {nd : Nat → List UInt8} {n r i : Nat} (h : i < n) : (nodeC nd n r)[i]? = some (.string (if r < i then txt (nd i) else ⟨#[]⟩)) := by simp [nodeC, List.getElem?_range h]
theorem nodeC_got {nd : Nat → List UInt8} {n r i : Nat} (h : i < n) (h2 : r < i) : (nodeC nd n r)[i]? = some (.string (txt (nd i))) := by rw [nodeC_at h, if_pos h2]
theorem nodeC_set (nd : Nat → List UInt8) (n r : Nat) : (nodeC nd n (r + 1)).set (r + 1) (.string (txt (nd (r + 1)))) = nodeC nd n r := by
  apply List.ext_getElem?
  intro i
  by_cases hi : i < n
  · by_cases e : r + 1 = i
    · subst e
      rw [List.getElem?_set_self (by rw [nodeC_len]; exact hi), nodeC_got hi (Nat.lt_succ_self r)]
    · rw [List.getElem?_set_ne e, nodeC_at hi, nodeC_at hi]
      by_cases h2 : r < i
      · rw [if_pos h2, if_pos (by omega)]
      · rw [if_neg h2, if_neg (by omega)]
  · rw [List.getElem?_eq_none (by rw [List.length_set, nodeC_len]; omega), List.getElem?_eq_none (by rw [nodeC_len]; omega)]
theorem nodeC_start (nd : Nat → List UInt8) (n r : Nat) (h : n ≤ r + 1) : nodeC nd n r = List.replicate n (.string ⟨#[]⟩) := by
  apply List.ext_getElem?
  intro i
  by_cases hi : i < n
  · rw [nodeC_at hi, if_neg (by omega), List.getElem?_replicate, if_pos hi]
  · rw [List.getElem?_eq_none (by rw [nodeC_len]; omega), List.getElem?_eq_none (by rw [List.length_replicate]; omega)]

/-- A tree's nodes. -/
def ndOf (p : Ots.Par) (h : Nat) (id seed : ByteArray) (r : Nat) : List UInt8 := Lms.at_ id.data.toList (Lms.keys p id.data.toList seed.data.toList h) h r
theorem ndOf_len (p : Ots.Par) (h : Nat) (id seed : ByteArray) (r : Nat) : (ndOf p h id seed r).length = 32 := Lms.at_len _ _ _ _
theorem Tryz.infoStrR : (Tryz.prog.info? 9).map (fun i => (i.zero, i.size, i.bytes)) = some (some (.string ByteArray.empty), 1, 16) := by kernel_rfl


end Go.Proofs.YtmfajekfipfjpaaGreat
