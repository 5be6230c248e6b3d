/- Layer 12, the reference's side: objects with their hashes. -/
import Derived.Test.YtpjfhbmegabafaaLFtLo
import Derived.Test.YtpjfhbmegabafaaLFtU
import Derived.Test.YtpjfhbmegabafaaLObRf
namespace Go.Proofs.Ytpjfhbmegabafaa
open Go.RowKit
open Go.Lib (strCells strCells_length strCells_oneCell)
attribute [local irreducible] Sha.compress Sha.blocks Sha.sha Sha.pad

/-- The reference's objects with their hashes. -/
def KnAt (w : World) (B r : Nat) (m : Obs) : Prop := ∃ A c, Holds w r 113 [.slice A m.length c] ∧ w.ownsRow B 85 33 (.slice A m.length c) m.length (rowOb m) ∧ (∀ p ∈ m, p.1.length = 32) ∧ m.length ≤ 1048576
theorem KnAt.on {w w' : World} {B r : Nat} {m : Obs} (h : KnAt w B r m) (hb : Below w.heap.size w w') : KnAt w' B r m := by
  obtain ⟨A, c, h1, h2, h3⟩ := h
  exact ⟨A, c, h1.below hb h1.lt, rown_on h2 hb, h3⟩
/-- What the reference knows of texts. -/
def knOf (xs : List ByteArray) : Obs := (xs.filter (fun x => decide (x.size ≤ 65536))).map (fun x => (obHash x, x))
theorem knOf_len (xs : List ByteArray) : ∀ p ∈ knOf xs, p.1.length = 32 := fun p hp => by
  obtain ⟨x, _, rfl⟩ := List.mem_map.1 hp
  exact obHash_len x
theorem knOf_le (xs : List ByteArray) : (knOf xs).length ≤ xs.length := by
  unfold knOf
  rw [List.length_map]
  exact List.length_filter_le _ _
theorem knOf_snoc (xs : List ByteArray) (x : ByteArray) : knOf (xs ++ [x]) = knOf xs ++ (if x.size ≤ 65536 then [(obHash x, x)] else []) := by
  unfold knOf
  rw [List.filter_append, List.map_append]
  by_cases h : x.size ≤ 65536 <;> simp [h]
theorem obGet_app (m : Obs) (p : List UInt8 × ByteArray) (k : List UInt8) : obGet (m ++ [p]) k = match obGet m k with
    | some x => some x
    | none => if p.1 = k then some p.2 else none := by
  unfold obGet
  rw [List.find?_append]
  cases h : m.find? (fun q => q.1 == k) with
  | some q => simp
  | none =>
    by_cases e : p.1 = k
    · simp [e]
    · simp [e]
theorem snoc_indK {α : Type} {p : List α → Prop} (h0 : p []) (h1 : ∀ xs x, p xs → p (xs ++ [x])) (xs : List α) : p xs := by
  have h : ∀ ys : List α, p ys.reverse := fun ys => by
    induction ys with
    | nil => exact h0
    | cons y ys ih =>
      rw [List.reverse_cons]
      exact h1 _ _ ih
  have := h xs.reverse
  rwa [List.reverse_reverse] at this
/-- Both sides know the same. -/
theorem kn_get (xs : List ByteArray) (k : List UInt8) : ksGet (xs.foldl addS []) k = obGet (knOf xs) k := by
  have key : ∀ (ys : List ByteArray), ksGet (ys.foldl addS []) k = obGet (knOf ys) k := fun ys => by
    refine snoc_indK (p := fun ys => ksGet (ys.foldl addS []) k = obGet (knOf ys) k) rfl (fun ys y ih => ?_) ys
    · show ksGet ((ys ++ [y]).foldl addS []) k = obGet (knOf (ys ++ [y])) k
      rw [List.foldl_append, List.foldl_cons, List.foldl_nil, knOf_snoc]
      obtain ⟨ks, hks⟩ : ∃ l, ys.foldl addS [] = l := ⟨_, rfl⟩
      rw [hks] at ih ⊢
      unfold addS
      by_cases h : y.size ≤ 65536
      · rw [if_pos h, if_pos h, obGet_app, ← ih]
        by_cases hn : ∀ p ∈ ks, p.1 ≠ obHash y
        · rw [addK_new hn]
          have := obGet_app ks (obHash y, y) k
          exact this
        · rw [addK_old hn]
          cases hg : ksGet ks k with
          | some x => rfl
          | none =>
            have hne : obHash y ≠ k := fun e => by
              apply hn
              intro p hp e2
              unfold ksGet at hg
              cases hf : ks.find? (fun p => p.1 == k) with
              | some q => rw [hf] at hg; cases hg
              | none =>
                have := List.find?_eq_none.1 hf p hp
                simp at this
                exact this (e2.trans e)
            simp [hne]
      · rw [if_neg h, if_neg h, List.append_nil]
        exact ih
  exact key xs
set_option maxRecDepth 100000 in
set_option maxHeartbeats 2000000 in
theorem knGet_any (B r : Nat) (m : Obs) (k : List UInt8) (hk : k.length = 32) (w : World) (hR : KnAt w B r m) : Calls Try.prog 58 #[.pointer (some ⟨r, 0, none⟩), .agg (byteCells k).toArray] w fun e w' => e = .returned (.tuple #[.string ((obGet m k).getD ⟨#[]⟩), .bool (obGet m k).isSome]) ∧ Below w.heap.size w w' := by
  obtain ⟨A, c, h1, h2, hlen, hm2⟩ := hR
  obtain ⟨n, hn⟩ : ∃ n, m.length = n := ⟨_, rfl⟩
  obtain ⟨kc, hkc⟩ : ∃ c, byteCells k = c := ⟨_, rfl⟩
  have hKC := hid (show HashCells kc from by rw [← hkc]; exact hash_cells k hk)
  have hKC2 := hid (show (Try.prog.info? 33).map (·.size) = some kc.length from by have := hKC.out.size; rwa [List.size_toArray] at this)
  have hH := hid (show Holds w r 113 [.slice A n c] from by rw [← hn]; exact h1)
  have hOw := hid (fun (V : World) (hb : Below w.heap.size w V) (i : Nat) p (hi : m[i]? = some p) => rown_at (rown_on h2 hb) hlen hi)
  have hl32 := hid hlen
  have hk32 := hid hk
  have hkc' := hid hkc
  have hn' := hid hn
  have hn9 : n ≤ 1048576 := by omega
  obtain ⟨sa, hsa⟩ : ∃ s, (obGet m k).getD ⟨#[]⟩ = s := ⟨_, rfl⟩
  obtain ⟨xa, hxa⟩ : ∃ x : Bool, (obGet m k).isSome = x := ⟨_, rfl⟩
  rw [hkc, hsa, hxa]
  have hsa' := hid hsa
  have hxa' := hid hxa
  obtain ⟨W0, hW0⟩ : ∃ W0, w.alloc (.cells kc.toArray 33) = W0 := ⟨_, rfl⟩
  have hb0 : Below w.heap.size w W0 := by rw [← hW0]; exact (Below.refl _ _).alloc (Nat.le_refl _) _
  have hK0 := hid (show Holds W0 w.heap.size 33 kc from by rw [← hW0]; exact Holds.new w 33 kc.toArray)
  have hB0 := hid hb0
  have hW0' := hid hW0
  have hr := hid h1.lt
  clear hW0 hb0 h1 h2 hlen hm2 hn hkc hk hsa hxa
  go_enter Try.func58, Try.ntmps58
  go_wp2_with (first
    | ((with_reducible refine at_slot (some 3) ?_); refine wpList_run rfl (.pointer (some ⟨w.heap.size, 0, none⟩)) (w.alloc (.cells kc.toArray 33)) (by kernel_rfl) ?_; rw [hW0'.out])
    | fail)
  go_loopw [6] (fun ix wr => ∃ i : Nat, i ≤ n ∧ ix = .int .i64 (i : Int) ∧ Hid (∀ j q, j < i → m[j]? = some q → q.1 ≠ k) ∧ Holds wr w.heap.size 33 kc ∧ Below w.heap.size w wr) (fun ix _ => n - (intOf ix).toNat)
  case atStart => exact ⟨0, Nat.zero_le _, rfl, hid (fun j q hj => absurd hj (Nat.not_lt_zero j)), hK0.out, hB0.out⟩
  case round =>
    obtain ⟨i, hi, rfl, hno, hKr, hBr⟩ := hrel
    have hK1 := hid hKr
    have hB1 := hid hBr
    have c1 := (hH.out.below hBr hr.out).cO 0 _ rfl
    clear hKr hBr
    by_cases hlt : i < n
    · obtain ⟨p, hp⟩ : ∃ p, m[i]? = some p := ⟨_, List.getElem?_eq_getElem (by rw [hn'.out]; exact hlt)⟩
      obtain ⟨g, hgA, hgc⟩ := hOw.out wr hB1.out i p hp
      subst hgA
      have hp' := hid hp
      have hp32 := hid (hl32.out p (List.mem_of_getElem? hp))
      have hlt' : (i : Int) < (n : Int) := by omega
      have s3 : (0 : Int) ≤ (i : Int) := by omega
      have hiw := IntWalk.i64_in ((i : Int) + 1) (by omega)
      have hcells := hid (fun (V : World) (hV : ∀ j v, (obCells p)[j]? = some v → V.cell? (((⟨g, 0, none⟩ : Addr).add (i * 33)).add j) = some v) => show ∀ j v, (byteCells p.1)[j]? = some v → V.cell? (((⟨g, 0, none⟩ : Addr).add (i * 33)).add j) = some v from fun j v hj => hV j v (by unfold obCells; rw [List.getElem?_append_left (List.getElem?_eq_some_iff.1 hj).1]; exact hj))
      have hgc' := hid hgc
      have hpc2 := hid (show (Try.prog.info? 33).map (·.size) = some (byteCells p.1).length from by have := (hash_cells p.1 hp32.out).size; rwa [List.size_toArray] at this)
      have h32 : (obCells p)[32]? = some (.string p.2) := by
        unfold obCells
        rw [List.getElem?_append_right (by rw [byteCells, List.length_map, hp32.out]; exact Nat.le_refl _), byteCells, List.length_map, hp32.out]
        rfl
      have h32' := hid h32
      clear hp hgc h32
      obtain ⟨e, he⟩ : ∃ e, (p.1 == k) = e := ⟨_, rfl⟩
      have he' := hid he
      clear he
      go_wp2_with fail
      have hb : Below wr.heap.size wr wr.drew := (Below.refl _ _).drew
      have hK2 := hid (hK1.out.below hb hK1.out.lt)
      have hB2 := hid (below_up hb hB1.out)
      clear hb hK1 hB1
      refine wp_region_held_drew (S := fun V => Holds V r 113 [.slice (some ⟨g, 0, none⟩) n c] ∧ Holds V w.heap.size 33 kc ∧ ∀ j v, (obCells p)[j]? = some v → V.cell? (((⟨g, 0, none⟩ : Addr).add (i * 33)).add j) = some v) (by kernel_rfl) (by exact ⟨hH.out.below hB2.out hr.out, hK2.out, hgc'.out⟩) (fun hHeld => ?_)
      generalize wr.drew = W2 at *
      refine tkn 0 (.pointer (some ⟨r, 0, none⟩)) rfl (by kernel_rfl) (fun _ _ _ h => h) (yieldsIf_move _ rfl rfl rfl) hHeld ?_
      simp only [ly, Act.put]
      refine tkn 1 (.pointer (some ⟨r, 0, none⟩)) rfl (by kernel_rfl) (fun _ _ _ h => h) (.inl ⟨by kernel_rfl, fun w _ => by go_simp⟩) hHeld ?_
      simp only [ly, Act.put]
      refine tkn 2 (.pointer (some ⟨r, 0, none⟩)) rfl (by kernel_rfl) (fun _ _ _ h => h) (.inl ⟨by kernel_rfl, fun w _ => by go_simp⟩) hHeld ?_
      simp only [ly, Act.put]
      refine tkn 3 (.slice (some ⟨g, 0, none⟩) n c) rfl (by kernel_rfl) (fun _ _ _ h => h) (.inl ⟨by kernel_rfl, fun V hS => by have c1 := hS.1.cO 0 _ rfl; go_simp⟩) hHeld ?_
      simp only [ly, Act.put]
      refine tkn 4 (.int .i64 (i : Int)) rfl (by kernel_rfl) (fun _ _ _ h => h) (yieldsIf_move _ rfl rfl rfl) hHeld ?_
      simp only [ly, Act.put]
      refine tkn 5 (.pointer (some ((⟨g, 0, none⟩ : Addr).add (i * 33)))) rfl (by kernel_rfl) (fun _ _ _ h => h) (.inl ⟨by kernel_rfl, fun w _ => by go_simp⟩) hHeld ?_
      simp only [ly, Act.put]
      refine tkn 6 (.pointer (some ((⟨g, 0, none⟩ : Addr).add (i * 33)))) rfl (by kernel_rfl) (fun _ _ _ h => h) (.inl ⟨by kernel_rfl, fun w _ => by go_simp⟩) hHeld ?_
      simp only [ly, Act.put]
      refine tkn 7 (.agg (byteCells p.1).toArray) rfl (by kernel_rfl) (fun _ _ _ h => h) (yieldsIf_load_any (by kernel_rfl) _ _ rfl ((⟨g, 0, none⟩ : Addr).add (i * 33)) rfl (byteCells p.1) _ (fun V hS => hcells.out V hS.2.2) Try.underlying33 rfl (by exact hpc2.out)) hHeld ?_
      simp only [ly, Act.put]
      refine tkn 8 (.agg kc.toArray) rfl (by kernel_rfl) (fun _ _ _ h => h) (yieldsIf_load_any (by kernel_rfl) _ _ rfl ⟨w.heap.size, 0, none⟩ rfl kc _ (fun V hS => hS.2.1.anyO) Try.underlying33 rfl (by exact hKC2.out)) hHeld ?_
      simp only [ly, Act.put]
      refine tkn 9 (.bool e) rfl (by kernel_rfl) (fun _ _ _ h => h) (yieldsIf_zeql (by kernel_rfl) (.tmp 23) (.tmp 24) _ rfl p.1 k (by exact hp32.out) (by exact hk32.out) e (by exact he'.out) rfl (by rw [hkc'.out]; rfl)) hHeld ?_
      simp only [ly, Act.put]
      refine wpAnyH_done (by kernel_rfl) ?_ _
      cases e
      · have hne := he'.out
        have hno2 := hid (show ∀ j q, j < i + 1 → m[j]? = some q → q.1 ≠ k from fun j q hj hq => by
          by_cases h : j < i
          · exact hno.out j q h hq
          · have e : j = i := by omega
            subst e
            rw [hp'.out] at hq
            rw [← Option.some.inj hq]
            exact beq_eq_false_iff_ne.1 hne)
        clear hne
        go_wp2_with fail
        go_roundw
        case rel => exact ⟨i + 1, by omega, by go_num, hno2, hK2.out, hB2.out⟩
        case measure => simp [intOf]; omega
      · have hfin := hid (show obGet m k = some p.2 from obGet_fst hno.out hp'.out (eq_of_beq he'.out))
        have c1 := (hH.out.below hB2.out hr.out).cO 0 _ rfl
        obtain ⟨g2, hg2, hgc2⟩ := hOw.out _ hB2.out i p hp'.out
        obtain rfl : g = g2 := congrArg Addr.block (Option.some.inj hg2)
        have c32 := hgc2 32 _ h32'.out
        rw [add_add, show (⟨g, 0, none⟩ : Addr).add (i * 33 + 32) = ⟨g, i * 33 + 32, none⟩ from by unfold Addr.add; split <;> simp_all] at c32
        clear hgc2 hg2
        go_wp2_with fail
        go_ret2
        exact ⟨by rw [← hsa'.out, ← hxa'.out, hfin.out]; rfl, hB2.out⟩
    · have hlt' : ¬ (i : Int) < (n : Int) := by omega
      obtain rfl : i = n := by omega
      have hfin := hid (show obGet m k = none from obGet_out (fun j q hj hq => hno.out j q (by rw [← hn'.out]; exact hj) hq))
      go_wp2_with fail
      go_ret2
      exact ⟨by rw [← hsa'.out, ← hxa'.out, hfin.out]; rfl, hB1.out⟩

end Go.Proofs.Ytpjfhbmegabafaa
