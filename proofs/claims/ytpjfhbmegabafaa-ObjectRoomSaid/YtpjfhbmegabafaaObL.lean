/- Layer 11: a store that holds exactly these texts, each once. -/
import Derived.Test.YtpjfhbmegabafaaObPr
namespace Go.Proofs.Ytpjfhbmegabafaa
open Go.RowKit
attribute [local irreducible] Sha.compress Sha.blocks Sha.sha Sha.pad

def obOf (held : List ByteArray) : Obs := held.map fun d => (obHash d, d)
theorem obOf_len (held : List ByteArray) : (obOf held).length = held.length := by unfold obOf; rw [List.length_map]
theorem obOf_no {held : List ByteArray} {x : ByteArray} (hinj : ∀ y ∈ held, obHash y = obHash x → y = x) (h : x ∉ held) : obGet (obOf held) (obHash x) = none := obGet_none.2 fun p hp e => by
  obtain ⟨y, hy, rfl⟩ := List.mem_map.1 hp
  have := hinj y hy e
  subst this
  exact h hy
theorem obOf_yes {held : List ByteArray} {x : ByteArray} (hinj : ∀ y ∈ held, obHash y = obHash x → y = x) (h : x ∈ held) : obGet (obOf held) (obHash x) = some x := by
  cases hq : obGet (obOf held) (obHash x) with
  | none => exact absurd rfl (obGet_none.1 hq (obHash x, x) (List.mem_map.2 ⟨x, h, rfl⟩))
  | some d =>
    obtain ⟨y, hy, e⟩ := List.mem_map.1 (obGet_mem hq)
    injection e with e1 e2
    rw [← e2, hinj y hy e1]
/-- What a Put answers a store of these texts. -/
theorem putAns_of {k : Nat} {held : List ByteArray} {x : ByteArray} (hs : x.size ≤ 4096) (hinj : ∀ y ∈ held, obHash y = obHash x → y = x) :
    (x ∈ held → putAns k (obOf held) x = (obHash x, 0, obOf held)) ∧ (x ∉ held → held.length < k → putAns k (obOf held) x = (obHash x, 0, obOf (held ++ [x]))) ∧ (x ∉ held → ¬ held.length < k → putAns k (obOf held) x = (List.replicate 32 0, 1102, obOf held)) := by
  have hs' : ¬ 4096 < x.size := by omega
  refine ⟨fun h => ?_, fun h hl => ?_, fun h hl => ?_⟩
  · unfold putAns
    rw [if_neg hs', obOf_yes hinj h, if_pos (by simp)]
  · unfold putAns
    rw [if_neg hs', obOf_no hinj h, if_neg (by simp), if_pos (by rw [obOf_len]; exact hl)]
    simp [obOf]
  · unfold putAns
    rw [if_neg hs', obOf_no hinj h, if_neg (by simp), if_neg (by rw [obOf_len]; exact hl)]

/-- The sixteen texts: "o" and a byte. -/
def roomT (k : Nat) : ByteArray := ⟨#[111, UInt8.ofNat k]⟩
theorem roomT_size (k : Nat) : (roomT k).size = 2 := rfl
theorem roomT_cat (k : Nat) : (⟨#[111]⟩ : ByteArray) ++ ⟨#[UInt8.ofNat k]⟩ = roomT k := by
  apply ByteArray.ext
  rw [ByteArray.data_append]
  rfl
theorem roomT_inj {a b : Nat} (ha : a < 256) (hb : b < 256) (h : roomT a = roomT b) : a = b := by
  have e := congrArg (fun s : ByteArray => s.data.toList) h
  have e2 : [(111 : UInt8), UInt8.ofNat a] = [111, UInt8.ofNat b] := e
  have e3 : UInt8.ofNat a = UInt8.ofNat b := by injection e2 with _ e4; injection e4
  have e5 := congrArg UInt8.toNat e3
  simp at e5
  omega

end Go.Proofs.Ytpjfhbmegabafaa
