/- append of a text's bytes, for longer rows. No function of the program is named here. -/
import Derived.Test.YtmgaegaibglnhaaGreatBytes
namespace Go.Proofs.YtmgaegaibglnhaaGreat
open Go.RowKit
open Go.Lib (strCells strCells_length strCells_oneCell)

/-- append of a text's bytes onto a row of bytes: where the new row lies, too. -/
theorem run_append_row2 {P : Program} {w : World} (t u ty e : TypeId) (i : TypeInfo) (ht : P.underlying t = some (.slice e)) (hu : P.underlying u = some .string) (hi : P.info? e = some i) (hz : i.zero = some (.int .u8 0))
    (hsize : i.size = 1) (hby : i.bytes = 1) {s : ByteArray} {A : Option Addr} {c : Nat} (hR : Row w e s A c) (p : ByteArray) (hmax : s.size + p.size ≤ 100000000000000) :
    ∃ A' c' w', (Builtin.append_ #[t, u] ty #[.slice A s.size c, .string p]).run P w = .ok (.slice A' (s ++ p).size c') w' ∧ Row w' e (s ++ p) A' c' ∧ w.grownBy w' (Value.slice A s.size c).ownBlock ∧
      Fresh w (Value.slice A s.size c).ownBlock (Value.slice A' (s ++ p).size c').ownBlock := by
  obtain ⟨v', w', hrun, hown, hg, hn⟩ := Go.Lib.run_append_own_string (P := P) w 0 t u ty e i ht hu hi hz hsize hby _ s.size (strCells s) hR p (by unfold maxLen; omega) (by omega) (Nat.zero_le _)
  rw [← strCells_append] at hown
  obtain ⟨A', c', rfl, hR'⟩ := row_form hown
  refine ⟨A', c', w', hrun, hR', hg, ?_⟩
  rcases hR.2 with ⟨hv, h0⟩ | ⟨g, cap, cur, hv, hb, hq, hnc, hcm, hcs, htake⟩
  · by_cases hp : p.size = 0
    · left
      have := hn.2 ⟨hv, hp⟩
      rw [this, hv]
    · right
      have hr := run_append_nil_string (P := P) w t u ty e i (.int .u8 0) ht hu hi hz p (by omega) (by omega) (by rw [hby]; omega)
      rw [← hv] at hr
      rw [hr] at hrun
      injection hrun with h1 h2
      rw [← h1]
      exact ⟨_, rfl, Nat.le_refl _⟩
  · injection hv with h1 _ h2
    subst h1 h2
    by_cases hroom : s.size + p.size ≤ c
    · left
      have hr := Go.Lib.run_append_room_string (P := P) w t u ty e i ht hu hi hsize g s.size c cur hq p hroom (by omega)
      rw [hr] at hrun
      injection hrun with h1 h2
      rw [← h1]
      rfl
    · right
      have hxl : (strCells s).length = s.size := strCells_length s
      have hr := Go.Lib.run_append_grow_string (P := P) w t u ty e i (.int .u8 0) ht hu hi hz ⟨g, 0, none⟩ s.size c (strCells s) (by rw [hsize, hxl]; omega) (hR.cells (g := g) rfl) p (by omega) (by omega) (by rw [hby]; exact growslice_fits (by omega) (by omega))
      rw [hr] at hrun
      injection hrun with h1 h2
      rw [← h1]
      exact ⟨_, rfl, Nat.le_refl _⟩

section
variable {P : Program} {ops : Array Oper} {o : Oper} {a : Act} {w : World} {Q : Exit → Act → World → Prop}
theorem wpList_append_row2 {rest : List Oper} (hgd : o.guard = none) (sl x : Operand) (t u : TypeId) (ho : o.op = .call { callee := .builtin .append, args := #[sl, x], argTypes := #[t, u] })
    (e : TypeId) (i : TypeInfo) (ht : P.underlying t = some (.slice e)) (hu : P.underlying u = some .string) (hi : P.info? e = some i) (hz : i.zero = some (.int .u8 0)) (hsize : i.size = 1) (hby : i.bytes = 1)
    (s p : ByteArray) (A : Option Addr) (c : Nat) (hs : a.eval sl = .slice A s.size c) (hx : a.eval x = .string p) (hR : Row w e s A c) (hmax : s.size + p.size ≤ 100000000000000) (sp : ByteArray) (hsp : s ++ p = sp)
    (h : ∀ A' c' w', Row w' e sp A' c' → w.grownBy w' (Value.slice A s.size c).ownBlock → Fresh w (Value.slice A s.size c).ownBlock (Value.slice A' sp.size c').ownBlock → wpList P ops Q rest (a.put o.dst (.slice A' sp.size c')) w') :
    wpList P ops Q (o :: rest) a w := by
  subst hsp
  refine wpList_plain hgd fun K hK => ?_
  obtain ⟨A', c', w', hr, h2, h3, h4⟩ := run_append_row2 (P := P) (w := w) t u o.type e i ht hu hi hz hsize hby hR p hmax
  unfold Oper.wp execOp
  simp only [ho, resolve, invoke, builtin, Sem.run_bind, Sem.run_pure, Result.andThen_ok, List.map_toArray, List.map_cons, List.map_nil, hs, hx, hr]
  exact hK _ _ (h A' c' w' h2 h3 h4)
end

end Go.Proofs.YtmgaegaibglnhaaGreat
