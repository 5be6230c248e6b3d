/- Layer 12, plain: the objects of the file "ab", reckoned. -/
import Derived.Test.YtpjfhbmegabafaaKFtLo
import Derived.Test.YtpjfhbmegabafaaKShaNu
namespace Go.Proofs.Ytpjfhbmegabafaa
open Go.RowKit
attribute [local irreducible] Sha.compress Sha.blocks Sha.sha Sha.pad

theorem bn_inj : ∀ (l m : List UInt8), l.length = m.length → Sha.bn l = Sha.bn m → l = m
  | [], [], _, _ => rfl
  | x :: l, y :: m, hl, e => by
    have hl' : l.length = m.length := by simpa using hl
    rw [Sha.bn_cons, Sha.bn_cons, hl'] at e
    have h1 := Sha.bn_lt l
    have h2 := Sha.bn_lt m
    rw [hl'] at h1
    obtain ⟨p, hp⟩ : ∃ p, 256 ^ m.length = p := ⟨_, rfl⟩
    rw [hp] at e h1 h2
    have hxy : x.toNat = y.toNat := by
      rcases Nat.lt_trichotomy x.toNat y.toNat with h | h | h
      · have := Nat.mul_le_mul_right p h
        rw [Nat.succ_mul] at this
        omega
      · exact h
      · have := Nat.mul_le_mul_right p h
        rw [Nat.succ_mul] at this
        omega
    rw [hxy] at e
    rw [UInt8.toNat_inj.1 hxy, bn_inj l m hl' (by omega)]
def dAB : ByteArray := ⟨#[97, 98]⟩
def tBab : ByteArray := ⟨#[66, 97, 98]⟩
def h1L : List UInt8 := [3, 209, 76, 124, 58, 241, 0, 162, 241, 231, 184, 58, 145, 236, 38, 72, 189, 26, 3, 85, 164, 184, 191, 108, 111, 56, 160, 237, 216, 34, 176, 90]
def tI : ByteArray := nodeB ⟨#[73]⟩ [h1L]
def h2L : List UInt8 := [167, 166, 166, 9, 17, 202, 85, 251, 237, 42, 108, 167, 134, 252, 254, 167, 212, 111, 121, 21, 88, 180, 191, 31, 97, 103, 232, 151, 188, 171, 129, 174]
def tR : ByteArray := nodeB ⟨#[82]⟩ [h2L]
def h3L : List UInt8 := [55, 17, 98, 173, 235, 38, 145, 180, 230, 126, 6, 196, 55, 240, 154, 113, 202, 146, 7, 156, 186, 30, 25, 95, 218, 192, 199, 255, 238, 75, 43, 112]
theorem ob_num {x : ByteArray} {l : List UInt8} (hl : l.length = 32) (hx : (tagL 0 [x]).length < 1000000000000000) (h : Nat.beq (Sha.shaN (Sha.bn (tagL 0 [x])) (tagL 0 [x]).length) (Sha.bn l) = true) : obHash x = l := by
  refine bn_inj _ _ (by rw [obHash_len, hl]) ?_
  unfold obHash
  rw [Sha.sha_num _ hx]
  exact Nat.eq_of_beq_eq_true h
theorem ob1 : obHash tBab = h1L := ob_num rfl (by decide) (by kernel_rfl)
theorem ob2 : obHash tI = h2L := ob_num rfl (by decide) (by kernel_rfl)
theorem ob3 : obHash tR = h3L := ob_num rfl (by decide) (by kernel_rfl)
theorem tree_ab : unlikeT (treeT dAB) = [tBab, tI, tR] := by
  have e1 : blksT dAB = [tBab] := by
    unfold blksT
    rw [show cutN 64 dAB.size = 1 from rfl]
    show [fblkT dAB 0] = [tBab]
    rw [show fblkT dAB 0 = tBab from by kernel_rfl]
  have e2 : hsT dAB = [h1L] := by unfold hsT; rw [e1]; show [obHash tBab] = _; rw [ob1]
  have e3 : fansT [h1L] = [tI] := by
    unfold fansT
    show [fanT [h1L] 0] = [tI]
    rfl
  have e4 : fsT dAB = [h2L] := by unfold fsT; rw [e2, e3]; show [obHash tI] = _; rw [ob2]
  have e5 : rootT dAB = tR := by unfold rootT; rw [e4]; rfl
  have e6 : treeT dAB = [tBab, tI, tR] := by unfold treeT; rw [e1, e2, e3, e5]; rfl
  rw [e6]
  unfold unlikeT
  have n1 : tBab ∉ ([] : List ByteArray) := List.not_mem_nil
  have n2 : tI ∉ [tBab] := by rw [List.mem_singleton]; decide +kernel
  have n3 : tR ∉ [tBab, tI] := by simp only [List.mem_cons, List.not_mem_nil, or_false]; decide +kernel
  simp only [List.foldl_cons, List.foldl_nil]
  rw [addT_new n1, List.nil_append, addT_new n2, show [tBab] ++ [tI] = [tBab, tI] from rfl, addT_new n3]
  rfl
theorem root_ab : obHash (rootT dAB) = h3L := by
  have e1 : blksT dAB = [tBab] := by
    unfold blksT
    rw [show cutN 64 dAB.size = 1 from rfl]
    show [fblkT dAB 0] = [tBab]
    rw [show fblkT dAB 0 = tBab from by kernel_rfl]
  have e2 : hsT dAB = [h1L] := by unfold hsT; rw [e1]; show [obHash tBab] = _; rw [ob1]
  have e3 : fansT [h1L] = [tI] := rfl
  have e4 : fsT dAB = [h2L] := by unfold fsT; rw [e2, e3]; show [obHash tI] = _; rw [ob2]
  rw [show rootT dAB = tR from by unfold rootT; rw [e4]; rfl]
  exact ob3
def ksAB : List (List UInt8 × ByteArray) := [(h1L, tBab), (h2L, tI), (h3L, tR)]
theorem ks_ab : ([tBab, tI, tR] : List ByteArray).foldl addS [] = ksAB := by
  have s1 : tBab.size ≤ 65536 := by decide
  have s2 : tI.size ≤ 65536 := by decide +kernel
  have s3 : tR.size ≤ 65536 := by decide +kernel
  simp only [List.foldl_cons, List.foldl_nil]
  have a1 : addS [] tBab = [(h1L, tBab)] := by
    unfold addS
    rw [if_pos s1, ob1, addK_new (fun p hp => (List.not_mem_nil hp).elim)]
    rfl
  have a2 : addS [(h1L, tBab)] tI = [(h1L, tBab), (h2L, tI)] := by
    unfold addS
    rw [if_pos s2, ob2, addK_new (by decide +kernel)]
    rfl
  have a3 : addS [(h1L, tBab), (h2L, tI)] tR = ksAB := by
    unfold addS
    rw [if_pos s3, ob3, addK_new (by decide +kernel)]
    rfl
  rw [a1, a2, a3]
theorem get1 : ksGet ksAB h1L = some tBab := by decide +kernel
theorem get2 : ksGet ksAB h2L = some tI := by decide +kernel
theorem get3 : ksGet ksAB h3L = some tR := by decide +kernel
theorem in2 : insideT tR = hashB h2L := by decide +kernel
theorem in1 : insideT tI = hashB h1L := by decide +kernel
theorem in0 : insideT tBab = dAB := by decide +kernel
theorem load_two : loadT (ksGet ksAB) h3L 2 = some (dAB, []) := by
  unfold loadT
  rw [show cutN 8 (cutN 64 2) = 1 from rfl, show cutN 64 2 = 1 from rfl, lvl_in get3 (show mayR 1 0 tR = true from by decide +kernel), in2, lvl]
  simp only [List.nil_append, ↓reduceIte]
  rw [pcsL_hash rfl, lvl_in get2 (show mayI 1 0 tI = true from by decide +kernel), in1, lvl]
  simp only [List.nil_append, ↓reduceIte]
  rw [pcsL_hash rfl, lvl_in get1 (show mayB 2 0 tBab = true from by decide +kernel), in0, lvl]
  simp only [List.nil_append, ↓reduceIte]
  rfl
theorem load_three : loadT (ksGet ksAB) h3L 3 = none := by
  unfold loadT
  rw [show cutN 8 (cutN 64 3) = 1 from rfl, show cutN 64 3 = 1 from rfl, lvl_in get3 (show mayR 1 0 tR = true from by decide +kernel), in2, lvl]
  simp only [List.nil_append, ↓reduceIte]
  rw [pcsL_hash rfl, lvl_in get2 (show mayI 1 0 tI = true from by decide +kernel), in1, lvl]
  simp only [List.nil_append, ↓reduceIte]
  rw [pcsL_hash rfl, lvl_bad get1 (show mayB 3 0 tBab = false from by decide +kernel)]
theorem load_none (root : List UInt8) (size : Nat) : loadT (ksGet []) root size = some (⟨#[]⟩, [root]) := by
  unfold loadT
  rw [lvl_want (show ksGet [] root = none from rfl), lvl, List.nil_append]
  simp only [List.cons_ne_nil, ↓reduceIte]
  rw [show unlikeH [root] = [root] from by unfold unlikeH; rw [List.foldl_cons, List.foldl_nil, addH_new (List.not_mem_nil)]; rfl]

end Go.Proofs.Ytpjfhbmegabafaa
