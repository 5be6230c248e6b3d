/- strings.Cut at the first slash. -/
import Derived.Test.YtapegklffglnoaaWords
import Derived.Shelf.Strings.Search2
import Derived.Shelf.RegionOpenPlain
import Derived.Lib.CutLaws
import Derived.Lib.IndexBytes
import Derived.Lib.IndexLaws
namespace Go.Proofs.Ytapegklffglnoaa
open Go.Shelf Go.RowKit Go.Lib
variable {P : Program} {ρ : Ren}

/-- s is n, a slash and r; or it holds no slash, and n is all of it. -/
def Cuts (s n r : ByteArray) (m : Bool) : Prop :=
  (m = true ∧ s.data.toList = n.data.toList ++ 47 :: r.data.toList ∧ ∀ c ∈ n.data.toList, c ≠ 47) ∨ (m = false ∧ n = s ∧ ∀ c ∈ s.data.toList, c ≠ 47)

set_option maxHeartbeats 2000000 in
set_option maxRecDepth 100000 in
/-- strings.Cut at the first slash. -/
theorem Any.liteCut_slash (L : Lays.n220 P ρ) (s : ByteArray) (w : World) (hs : s.size ≤ 4294967281) :
    Calls P (ρ.f 220) #[.string s, .string ⟨#[47]⟩] w fun e w' => ∃ n r m, e = .returned (.tuple #[.string n, .string r, .bool m]) ∧ Cuts s n r m ∧ ∃ k, w' = w.drewN k := by
  have t3 := L.t3; have t4 := L.t4; have t9 := L.t9
  have a3 : ∀ w, (isAgg (ρ.t 3)).run P w = .ok false w := run_isAgg_plain L.t3 rfl; have a4 : ∀ w, (isAgg (ρ.t 4)).run P w = .ok false w := run_isAgg_plain L.t4 rfl; have a9 : ∀ w, (isAgg (ρ.t 9)).run P w = .ok false w := run_isAgg_plain L.t9 rfl
  have e219 : ∀ args w, (callFunc (ρ.f 219) args).run P w = .ok (.enter (ρ.f 219) args) w := enters_of L.f219 (by kernel_rfl) rfl
  have mixed := L.mixed; have z3 := L.z3; have v3 := L.v3; have z4 := L.z4; have v4 := L.v4; have z9 := L.z9; have v9 := L.v9
  by_cases hix : Lib.indexByte s.data.toList 47 = -1
  · have hno := Lib.indexByte_none hix
    have hpost : Cuts s s ByteArray.empty false := .inr ⟨rfl, rfl, fun c hc e => by
      obtain ⟨k, hk⟩ := List.getElem?_of_mem hc
      exact hno k (e ▸ hk)⟩
    clear hno
    go_enter L.f220, Body.n220_ntmps ρ
    go_wp2_with (go_at_fn (ρ.f 219); refine (Any.stringslite_Index_one { L with } _ _ _).mono ?_; rintro e w' ⟨rfl, rfl⟩; rw [hix])
    go_ret3
    exact ⟨_, _, _, rfl, hpost, 0, rfl⟩
  · have hge := Lib.indexByte_ge s.data.toList 47
    obtain ⟨i, hi⟩ : ∃ i : Nat, Lib.indexByte s.data.toList 47 = i := ⟨(Lib.indexByte s.data.toList 47).toNat, by omega⟩
    obtain ⟨hat, hno⟩ := Lib.indexByte_some hi
    have hlt : i < s.data.toList.length := (List.getElem?_eq_some_iff.1 hat).1
    have hlen : s.data.toList.length = s.size := by rw [Lib.size_eq]
    have hpost : Cuts s (s.extract 0 i) (s.extract (i + 1) s.size) true := .inl ⟨rfl, by
      have e1 : (s.extract 0 i).data.toList = s.data.toList.take i := by rw [Lib.extract_eq]; simp
      have e2 : (s.extract (i + 1) s.size).data.toList = s.data.toList.drop (i + 1) := by
        rw [Lib.extract_eq, List.take_of_length_le (by rw [List.length_drop, hlen]; exact Nat.le_refl _)]
      rw [e1, e2]
      have e3 : s.data.toList = s.data.toList.take i ++ s.data.toList.drop i := (List.take_append_drop i _).symm
      rw [List.drop_eq_getElem_cons hlt] at e3
      have e4 : s.data.toList[i] = 47 := by
        rw [List.getElem?_eq_getElem hlt] at hat
        exact Option.some.inj hat
      rw [e4] at e3
      exact e3, by
      have e1 : (s.extract 0 i).data.toList = s.data.toList.take i := by rw [Lib.extract_eq]; simp
      rw [e1]
      intro c hc e
      obtain ⟨k, hk⟩ := List.getElem?_of_mem hc
      have hki : k < i := by
        have := (List.getElem?_eq_some_iff.1 hk).1
        rw [List.length_take] at this
        omega
      rw [List.getElem?_take_of_lt hki] at hk
      exact hno k hki (e ▸ hk)⟩
    have c1 : (0 : Int) ≤ ↑i := by omega
    have c2 : (↑i : Int) ≤ ↑s.size := by omega
    have c3 : (0 : Int) ≤ ↑i + 1 := by omega
    have c4 : (↑i + 1 : Int) ≤ ↑s.size := by omega
    clear hix hat hno hge
    go_enter L.f220, Body.n220_ntmps ρ
    go_wp2_with (go_at_fn (ρ.f 219); refine (Any.stringslite_Index_one { L with } _ _ _).mono ?_; rintro e w' ⟨rfl, rfl⟩; rw [hi])
    go_region_o
    go_wp2
    go_ret3
    exact ⟨_, _, _, rfl, hpost, 1, rfl⟩

set_option maxHeartbeats 1000000 in
theorem Any.Cut_slash (L : Lays.n145 P ρ) (s : ByteArray) (w : World) (hs : s.size ≤ 4294967281) :
    Calls P (ρ.f 145) #[.string s, .string ⟨#[47]⟩] w fun e w' => ∃ n r m, e = .returned (.tuple #[.string n, .string r, .bool m]) ∧ Cuts s n r m ∧ ∃ k, w' = w.drewN k := by
  have t4 := L.t4; have t9 := L.t9; have t59 := L.t59
  have a4 : ∀ w, (isAgg (ρ.t 4)).run P w = .ok false w := run_isAgg_plain L.t4 rfl; have a9 : ∀ w, (isAgg (ρ.t 9)).run P w = .ok false w := run_isAgg_plain L.t9 rfl; have a59 : ∀ w, (isAgg (ρ.t 59)).run P w = .ok false w := run_isAgg_plain L.t59 rfl
  have e220 : ∀ args w, (callFunc (ρ.f 220) args).run P w = .ok (.enter (ρ.f 220) args) w := enters_of L.f220 (by kernel_rfl) rfl
  have mixed := L.mixed; have z4 := L.z4; have v4 := L.v4; have z9 := L.z9; have v9 := L.v9; have z59 := L.z59; have v59 := L.v59
  have c := Any.liteCut_slash { L with } s w hs
  go_enter L.f145, Body.n145_ntmps ρ
  go_wp2_with (go_at_fn (ρ.f 220); refine c.mono ?_; rintro e w' ⟨n, r, m, rfl, hc, hw⟩; have hc' := hid hc; have hw' := hid hw; clear hc hw)
  go_ret3
  exact ⟨_, _, _, rfl, hc'.out, hw'.out⟩
end Go.Proofs.Ytapegklffglnoaa
