/- Layer 7, the program's side: the unsynced sectors' places, sorted. -/
import Derived.Test.YtbclmkpigdeilaaDkC
import Derived.Test.YtbclmkpigdeilaaDkL
namespace Go.Proofs.Ytbclmkpigdeilaa
open Go.RowKit Go.Maps Go.Sort Go.Shelf

theorem dkSorts (m : Nat) : AnyZI.SortsIn Try.prog Try.laysSorted_ren Fence.wide m :=
  ⟨fun blk off cap ss W hH hblk hsz => callsIn_wide.2 (AnyM.slices_Sort_int Try.laysSort blk off cap ss W hH hblk hsz),
   fun p cap W => callsIn_wide.2 (AnyM.slices_Sort_int_none Try.laysSort p cap W)⟩
theorem dkKeys_any (b : Nat) (w : World) : Calls Try.prog 61 #[.map (some b)] w fun e w' => e = .returned (.func (.func 90) #[] #[.pointer (some ⟨w.heap.size, 0, none⟩)]) ∧ w' = w.alloc (.cells #[.map (some b)] 113) :=
  (callsIn_wide (n := 5)).1 (AnyZI.keys_in Try.laysKeys Fence.wide 5 trivial rfl (some b) w)
theorem dkSorted_any (d r b n : Nat) (D : Dk) (w : World) (hD : DiskAt w d r b n D) :
    Calls Try.prog 60 #[.func (.func 90) #[] #[.pointer (some ⟨w.heap.size, 0, none⟩)]] (w.alloc (.cells #[.map (some b)] 113)) fun e w' => ∃ (A : Option Addr) (c : Nat), e = .returned (.slice A (oldKeys n D.old).length c) ∧ w'.ownsRow w.heap.size 3 1 (.slice A (oldKeys n D.old).length c) (oldKeys n D.old).length ((oldKeys n D.old).map fun (k : Nat) => Value.int .i64 (k : Int)) ∧ Below w.heap.size w w' := by
  have hrl : D.old.length ≤ 256 := by
    have h1 := rank_len hD.fine.ok
    have h2 := rank_le D.old n
    have := hD.most
    omega
  have hm1 : (D.old.map oldEnc).map (·.1) = (D.old.map fun p => (p.1 : Int)).map encZ := by
    rw [List.map_map, List.map_map]
    rfl
  have hwf : ∀ x ∈ (D.old.map fun p => (p.1 : Int)), (Lit.int .i64 x).wf = true := fun x hx => by
    obtain ⟨p, hp, rfl⟩ := List.mem_map.1 hx
    have h0 : IntKind.i64.min = -9223372036854775808 := by decide
    have h1 : IntKind.i64.max = 9223372036854775807 := by decide
    have h2 := hD.fine.ok.lt p hp
    have := hD.most
    simp only [Lit.wf, h0, h1, Bool.and_eq_true, decide_eq_true_eq]
    omega
  have hMap := hD.map.alloc (.cells #[.map (some b)] 113)
  obtain ⟨D0, hown, hperm, hsize⟩ := hMap.keys (P := Try.prog) (k := 3) Try.underlying3 hm1 hwf (by rw [List.length_map]; unfold maxLen; omega)
  rw [List.length_map] at hsize
  have hseq : SeqGives Fence.wide 2 Try.prog 90 #[.pointer (some ⟨w.heap.size, 0, none⟩)] encZ (fun ss => ss.Perm (intKeys D0)) (Maps.size D0) (w.alloc (.cells #[.map (some b)] 113)) :=
    AnyZI.keys_gives (ρ := Try.laysKeys_ren) { Try.laysKeys with } Fence.wide _ trivial rfl (by omega) w.heap.size b _ D0 _ (by simp) (by simp) hown
  have cS := AnyZI.sorted_in Try.laysSorted Fence.wide 5 trivial trivial trivial trivial rfl (by omega) (dkSorts _) (enters_of Try.func89 (by kernel_rfl) rfl) 90 #[.pointer (some ⟨w.heap.size, 0, none⟩)] trivial (enters_of Try.func90 (by kernel_rfl) rfl) _ _ (by unfold maxLen; omega) (by omega) _ hseq
  change CallsIn _ _ Try.prog 60 _ _ _ at cS
  refine (callsIn_wide.1 cS).mono ?_
  rintro e w' ⟨v, ss, rfl, hS, hrow, _, hb⟩
  have hss : ss.Perm (D.old.map fun p => (p.1 : Int)) := hS.trans hperm
  have hlen : ss.length = (oldKeys n D.old).length := by rw [hss.length_eq, List.length_map, oldKeys_len, rank_len hD.fine.ok]
  rw [keys_sorted hD.fine.ok hss, hlen, List.map_map] at hrow
  obtain ⟨A, c, rfl⟩ := own_form hrow
  exact ⟨A, c, rfl, ownsRow_base_a hrow (by simp), ((Below.refl _ w).alloc (Nat.le_refl _) _).trans (hb.mono (by simp))⟩

end Go.Proofs.Ytbclmkpigdeilaa
