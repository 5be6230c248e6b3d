/- Maps whose keys are hashes. -/
import Derived.Test.YtpjfhbmegabafaaHashR
import Derived.Test.YtpjfhbmegabafaaMaps
namespace Go.Proofs.Ytpjfhbmegabafaa
open Go.RowKit
open Go.Maps (Keyed)
attribute [local irreducible] Sha.compress Sha.blocks Sha.sha Sha.pad

theorem mapM_some {α β : Type} (f : α → Option β) : ∀ (l : List α), (∀ x ∈ l, ∃ y, f x = some y) → ∃ ys, l.mapM f = some ys
  | [], _ => ⟨[], rfl⟩
  | x :: l, h => by
    obtain ⟨y, hy⟩ := h x (List.mem_cons_self ..)
    obtain ⟨ys, hys⟩ := mapM_some f l (fun z hz => h z (List.mem_cons_of_mem _ hz))
    exact ⟨y :: ys, by rw [List.mapM_cons, hy, hys]; rfl⟩
theorem hashLaid : laidOutB Try.prog = true := by kernel_rfl
theorem hash_keyed : Keyed Try.prog 33 := Keyed.of_law (deep_law_laid hashLaid (m := 2) (by decide) (of_decide_eq_true (by kernel_rfl)) (by kernel_rfl) (by kernel_rfl))
theorem hash_key (l : List UInt8) (hl : l.length = 32) : ∃ kl, keyOf Try.prog 33 (.agg (byteCells l).toArray) = some kl := by
  have hc : Try.prog.cellsOf 33 = 32 := by kernel_rfl
  have hu8 : Try.prog.cellsOf 5 = 1 := by kernel_rfl
  have hkt : Try.prog.keyType 33 = true := by kernel_rfl
  obtain ⟨n, hn⟩ : ∃ n, Try.prog.types.size = n := ⟨_, rfl⟩
  have hpos : ∃ d, n = d + 1 := by
    have h : (Try.prog.types.size == 0) = false := by kernel_rfl
    rw [hn, beq_eq_false_iff_ne] at h
    exact ⟨n - 1, by omega⟩
  have hlen : (byteCells l).length = 32 := by rw [byteCells, List.length_map, hl]
  obtain ⟨ys, hys⟩ := mapM_some (fun i => Try.prog.keyLits n 5 (((byteCells l).drop (i * Try.prog.cellsOf 5)).take (Try.prog.cellsOf 5))) (List.range 32) (fun i hi => by
    have hi' : i < l.length := by rw [hl]; exact List.mem_range.1 hi
    have e : ((byteCells l).drop (i * Try.prog.cellsOf 5)).take (Try.prog.cellsOf 5) = [.int .u8 ((l[i]).toNat : Int)] := by
      rw [hu8, Nat.mul_one, List.drop_eq_getElem_cons (by rw [byteCells, List.length_map]; exact hi')]
      simp [byteCells]
    have hw : (Lit.int .u8 ((l[i]).toNat : Int)).wf = true := by
      have := (l[i]).toNat_lt
      have h0 : IntKind.u8.min = 0 := by decide
      have h1 : IntKind.u8.max = 255 := by decide
      simp only [Lit.wf, h0, h1, Bool.and_eq_true, decide_eq_true_eq]
      omega
    obtain ⟨d, rfl⟩ := hpos
    exact ⟨[.int .u8 ((l[i]).toNat : Int)], by simp only [e, Program.keyLits, Try.underlying5]; simp [hw]⟩)
  refine ⟨.string (keyBytes ys.flatten), ?_⟩
  unfold keyOf
  simp only [Try.underlying33, hkt, Value.formed, Value.cells, hc, hn]
  simp only [Program.keyLits, Try.underlying33, hc, hlen, hys]
  simp [hlen]

end Go.Proofs.Ytpjfhbmegabafaa
