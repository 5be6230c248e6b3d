/- Layer 8: the law JournalGoes. -/
import Derived.Test.YtlicmbmhcpfocaaJnAw
namespace Go.Proofs.Ytlicmbmhcpfocaa
open Go.RowKit
open Go.Lib (strCells strCells_length strCells_oneCell)
attribute [local irreducible] Sha.compress Sha.blocks Sha.sha Sha.pad

def noRec : Rec := ⟨0, ⟨#[]⟩⟩
section
variable {H : Type} {enc : TypeId × Value → H} {w : World} {base : Nat} {spare : Nat → Bool} {held : Bool}
open Go.ChangeShapes Go.WideShapes Go.Deep
theorem open_recs {fuel : Nat} {x : DataW H × List MemPlace} {A : Option Addr} {len cap : Nat} (h : DataW.trod enc Try.prog w base spare held fuel 35 [.slice A len cap] = some x) (hlt : ∀ y ∈ x.2, y.block < w.heap.size) : ∃ xs, RecsA w w.heap.size A len xs ∧ len ≤ maxLen := by
  have hC : Try.prog.cellsOf 25 = 2 := by kernel_rfl
  rcases open_slice Try.underlying35 h with ⟨hcs, _⟩ | ⟨a, l, c, m, n, D, Pl, hcs, hb, hl, hm, hmm, hx, hi⟩
  · simp at hcs
    obtain ⟨rfl, rfl, rfl⟩ := hcs
    exact ⟨[], ⟨rfl, .inl rfl⟩, Nat.zero_le _⟩
  · simp at hcs
    obtain ⟨rfl, rfl, rfl⟩ := hcs
    have hlm : len ≤ m := by
      rw [hmm]
      split
      · exact hl
      · exact Nat.le_refl _
    have hex : ∀ i, i < len → ∃ b : Rec, ∀ j v, (recV b)[j]? = some v → w.cell? ((a.add (i * 2)).add j) = some v := by
      intro i hil
      obtain ⟨cs', hc, ht⟩ := hi i (by omega)
      rw [hC] at hc
      obtain ⟨_, hcl, hat⟩ := World.cells?_some hc
      obtain ⟨b, hbc⟩ := open_rec ht
      refine ⟨b, fun j v hv => ?_⟩
      have hj : j < 2 := (List.getElem?_eq_some_iff.1 hv).1
      rw [hat j hj, hbc, hv]
    let g : Nat → Rec := fun i => if hil : i < len then Classical.choose (hex i hil) else noRec
    have hg : ∀ i (hil : i < len), ∀ j v, (recV (g i))[j]? = some v → w.cell? ((a.add (i * 2)).add j) = some v := by
      intro i hil
      have : g i = Classical.choose (hex i hil) := by simp [g, hil]
      rw [this]
      exact Classical.choose_spec (hex i hil)
    refine ⟨(List.range len).map g, ⟨by simp, ?_⟩, Nat.le_trans hl hm⟩
    rcases Nat.eq_zero_or_pos len with h0 | h0
    · exact .inl h0
    · refine .inr ⟨a, rfl, ?_, ?_⟩
      · have := hlt (.cell a.block a.off) (by
          rw [hx, hC]
          exact List.mem_append_left _ (row_head a (m * 2) (by omega)))
        exact this
      · intro i hi j v hv
        have hil : i < len := by simpa using hi
        simp only [List.getElem_map, List.getElem_range] at hv
        exact hg i hil j v hv
end
section
variable {ops : Array Oper} {rest : List Oper} {a : Act} {w : World} {Q : Exit → Act → World → Prop}
/-- One record put behind a row of records. -/
theorem wpList_pushRec {o1 o2 : Oper} (hg1 : o1.guard = none) (hg2 : o2.guard = none) (x s y : Operand) (ho1 : o1.op = .buildSlice 35 1 #[(0, x)]) (ho2 : o2.op = .call { callee := .builtin .append, args := #[s, y], argTypes := #[35, 35] })
    (B : Nat) (A : Option Addr) (n' c : Nat) (cs : List Value) (R : Rec) (hx : a.eval x = .agg (recV R).toArray) (hs : (a.put o1.dst (.slice (some ⟨w.heap.size, 0, none⟩) 1 1)).eval s = .slice A n' c) (hy : (a.put o1.dst (.slice (some ⟨w.heap.size, 0, none⟩) 1 1)).eval y = .slice (some ⟨w.heap.size, 0, none⟩) 1 1)
    (h63 : n' ≤ 1000000) (hown : w.ownsRow B 25 2 (.slice A n' c) n' cs) (hB : B ≤ w.heap.size)
    (h : ∀ A2 c2 w', w'.ownsRow B 25 2 (.slice A2 (n' + 1) c2) (n' + 1) (cs ++ recV R) → w.grownBy w' (Value.slice A n' c).ownBlock → wpList Try.prog ops Q rest ((a.put o1.dst (.slice (some ⟨w.heap.size, 0, none⟩) 1 1)).put o2.dst (.slice A2 (n' + 1) c2)) w') :
    wpList Try.prog ops Q (o1 :: o2 :: rest) a w := by
  obtain ⟨i0, hi0, hz0, hz1, hz2⟩ := info_parts Try.infoRec
  refine wpList_plain hg1 fun K hK => ?_
  refine wp_build_one 35 25 x ho1 i0 _ Try.underlying35 hi0 hz0 (recV R).toArray hx (by rw [hz1]; rfl) (by show 0 < 2; decide) (by show 2 ≤ 1000000; decide) ?_
  refine hK _ _ ?_
  clear hK K
  have hb1 : Below w.heap.size w (w.alloc (.cells (recV R).toArray 25)) := (Below.refl _ _).alloc (Nat.le_refl _) _
  have hown1 := rows_on hown hb1
  have hH := Holds.new w 25 (recV R).toArray
  have hcl : ∀ j u, (recV R)[j]? = some u → (w.alloc (.cells (recV R).toArray 25)).cell? ((⟨w.heap.size, 0, none⟩ : Addr).add j) = some u := fun j u hj => by
    rw [show (⟨w.heap.size, 0, none⟩ : Addr).add j = ⟨w.heap.size, j, none⟩ from by unfold Addr.add; split <;> simp_all, hH.cell]
    exact hj
  refine wpList_plain hg2 fun K hK => ?_
  rw [← hz1] at hown1
  obtain ⟨A2, c2, w', hr, hrow, hg, hf⟩ := run_append_fresh (P := Try.prog) (w.alloc (.cells (recV R).toArray 25)) B 35 o2.type 25 i0 _ Try.underlying35 hi0 hz0 (by rw [hz1]; rfl) (by rw [hz1]; decide) A n' c cs hown1 ⟨w.heap.size, 0, none⟩ 1 1 (recV R) (by decide) (by rw [hz1]; rfl) hcl (recV_one R) (by omega) (by rw [hz2]; omega) (Nat.le_trans hB hb1.size)
  rw [hz1] at hrow
  unfold Oper.wp execOp
  simp only [ho2, resolve, invoke, builtin, Sem.run_bind, Sem.run_pure, Result.andThen_ok, List.map_toArray, List.map_cons, List.map_nil, hs, hy, hr]
  exact hK _ _ (h A2 c2 w' hrow ⟨hg.os.trans hb1.os, hg.tape.trans hb1.tape, hg.output.trans hb1.output, Nat.le_trans hb1.size hg.size, fun k hk hne => (hg.block k (Nat.lt_of_lt_of_le hk hb1.size) hne).trans (hb1.block k hk)⟩)
end
/-- A row of records lies in no block of another type. -/
theorem recs_ne {w : World} {B n k g : Nat} {t : TypeId} {v : Value} {xs cs : List Value} (h : w.ownsRow B 25 2 v n xs) (hk : v.ownBlock = some k) (hg : Holds w g t cs) (ht : t ≠ 25) : k ≠ g := by
  intro e
  subst e
  rcases h.2 with ⟨hn, _⟩ | ⟨q, cap, cur, hv, hb, hq, rest⟩
  · rw [hn] at hk; cases hk
  · rw [hv] at hk
    have e : q = k := Option.some.inj hk
    subst e
    unfold Holds at hg
    rw [hq] at hg
    injection hg with h1
    injection h1 with _ h2
    exact ht h2.symm
theorem recs_nemap {w : World} {B n k b : Nat} {v : Value} {xs : List Value} {m : List (Value × Value)} (h : w.ownsRow B 25 2 v n xs) (hk : v.ownBlock = some k) (hg : MapS w b m) : k ≠ b := by
  intro e
  subst e
  obtain ⟨_, c, t, f, hq⟩ := rows_cells h hk
  obtain ⟨es, clock, hb, _⟩ := hg
  rw [hq] at hb
  cases hb
/-- A row of records and a disk. -/
theorem recs_dk {w : World} {B n k d r b m : Nat} {D : Dk} {v : Value} {xs : List Value} (h : w.ownsRow B 25 2 v n xs) (hk : v.ownBlock = some k) (hA : DiskAt w d r b m D) : k ≠ d ∧ k ≠ r ∧ k ≠ b :=
  ⟨recs_ne h hk hA.own (by decide), recs_ne h hk hA.row (by decide), recs_nemap h hk hA.map⟩
theorem recs_turned {w w' : World} {B n d r b m : Nat} {D : Dk} {v : Value} {xs : List Value} (h : w.ownsRow B 25 2 v n xs) (hA : DiskAt w d r b m D) (hT : Turns w w' r (some b)) : w'.ownsRow B 25 2 v n xs :=
  rows_of_blocks h fun k hk => hT.block k (h.lt k hk).2 (recs_dk h hk hA).2.1 (fun e => (recs_dk h hk hA).2.2 (Option.some.inj e))
theorem recs_turnedS {w w' : World} {B n d r b m j : Nat} {D : Dk} {v : Value} {xs js : List Value} (h : w.ownsRow B 25 2 v n xs) (hA : DiskAt w d r b m D) (hJ : Holds w j 67 js) (hT : TurnS (JS j r b) w w') : w'.ownsRow B 25 2 v n xs :=
  rows_of_blocks h fun k hk => hT.block k (h.lt k hk).2 (fun hs => by
    rcases hs with e | e | e
    · exact recs_ne h hk hJ (by decide) e
    · exact (recs_dk h hk hA).2.1 e
    · exact (recs_dk h hk hA).2.2 e)
/-- Each record takes a sector at least. -/
theorem stand_seq {xs : List ByteArray} {st st' : JSt} {l : List (Rec × ByteArray)} (h : stand xs st l = some st') : st'.seq + st.used ≤ st'.used + st.seq := by
  induction l generalizing st with
  | nil => rw [Option.some.inj h]; omega
  | cons p l ih =>
    unfold stand at h
    by_cases hq : nextS xs st = some p
    · rw [if_pos hq] at h
      have h1 := ih h
      have e1 : (st.pass p.1 p.2).seq = st.seq + 1 := rfl
      have e2 : (st.pass p.1 p.2).used = st.used + p.2.size / 64 := rfl
      have e3 : 1 ≤ p.2.size / 64 := by
        unfold nextS at hq
        split at hq
        · rename_i hc
          have e4 : (sealAns st.prev (st.seq : Int) (guessS xs st.used)).1 = p.2 := congrArg Prod.snd (Option.some.inj hq)
          have hc1 := hc.1
          cases hm : sealMay (st.seq : Int) (guessS xs st.used) with
          | false => unfold sealAns at hc1; rw [hm] at hc1; cases hc1
          | true =>
            unfold sealAns at e4
            rw [hm] at e4
            have e5 : recBytes st.prev ((st.seq : Int).toNat) (guessS xs st.used).kind.toNat (guessS xs st.used).data = p.2 := e4
            rw [← e5, recBytes_size, Nat.mul_div_cancel _ (by decide)]
            have := wholes_ge (41 + (guessS xs st.used).data.size)
            omega
        · cases hq
      omega
    · rw [if_neg hq] at h
      cases h

set_option maxRecDepth 100000 in
set_option maxHeartbeats 16000000 in
theorem JournalGoes_law (A1 : Option Addr) (n1 c1 : Nat) (xs1 : List Rec) {w : World} (h1 : RecsA w w.heap.size A1 n1 xs1) (_ : n1 ≤ maxLen) (A2 : Option Addr) (n2 c2 : Nat) (xs2 : List Rec) (h2 : RecsA w w.heap.size A2 n2 xs2) (_ : n2 ≤ maxLen) :
    Calls Try.prog 7 #[.slice A1 n1 c1, .slice A2 n2 c2] w fun e w' => e = .returned (.bool true) ∧ Below w.heap.size w w' := by
  have hX1 := hid h1
  have hX2 := hid h2
  clear h1 h2
  go_enter Try.func7, Try.ntmps7
  go_wp2_with (first
    | (go_at_call 13; refine (awake8_any _).mono ?_; rintro e W1 ⟨rfl, hb⟩; have hB1 := hid hb; clear hb)
    | fail)
  have hN := hid (dkNew_yes 256 (by decide) (by decide) W1)
  obtain ⟨d, hd⟩ : ∃ d, W1.heap.size + 2 = d := ⟨_, rfl⟩
  obtain ⟨r, hr0⟩ : ∃ r, W1.heap.size = r := ⟨_, rfl⟩
  obtain ⟨b, hb0⟩ : ∃ b, W1.heap.size + 1 = b := ⟨_, rfl⟩
  have hr := hid (show w.heap.size ≤ r from by have := hB1.out.size; omega)
  have hb' := hid (show w.heap.size ≤ b from by have := hB1.out.size; omega)
  have hN' := hid (show Calls Try.prog 14 #[.int .i64 256] W1 fun e w' => e = .returned (.tuple #[.pointer (some ⟨d, 0, none⟩), .int .i64 0]) ∧ DiskAt w' d r b 256 (Dk.new 256) ∧ Below W1.heap.size W1 w' from by
    have h := hN.out
    rw [hd, hb0] at h
    exact h.mono fun e w' h2 => ⟨h2.1, by rw [← hr0]; exact h2.2.1, h2.2.2⟩)
  clear hN hd hr0 hb0
  refine hN'.out.mono ?_
  rintro e W2 ⟨rfl, hA, hb⟩
  have hA2 := hid hA
  have hB2 := hid (bup hb hB1.out)
  clear hA hb hN' hB1
  go_wp2_with fail
  go_loopw [7, 8] (fun av ix wr => ∃ (q : Nat) (D : Dk) (l : Stood) (st : JSt) (A : Option Addr) (c : Nat), q ≤ 2 ∧ ix = .int .i64 (q : Int) ∧ av = .slice A l.length c ∧ JOk D 256 l st ∧ DiskAt wr d r b 256 D ∧ wr.ownsRow w.heap.size 25 2 (.slice A l.length c) l.length (recsV l) ∧ Below w.heap.size w wr) (fun _ ix _ => 2 - (intOf ix).toNat)
  case atStart => exact ⟨0, Dk.new 256, [], JSt.start, none, 0, by decide, rfl, rfl, JOk.new 256, hA2.out, World.ownsRow_nil _ _ _ _, hB2.out⟩
  case round =>
    obtain ⟨q, D, l, st, A, c, hq2, rfl, rfl, hok, hA, hrow, hB⟩ := hrel
    obtain ⟨W4, rfl⟩ : ∃ V, V = wr := ⟨_, rfl⟩
    have hA4 := hid hA
    have hB4 := hid hB
    have hok' := hid hok
    have hR4 := hid hrow
    have hfl := hok.facts
    have hll := hid (show l.length ≤ 256 from by
      have h := stand_seq hok.chain
      have h2 := hfl.2.1
      have h3 := hfl.2.2
      have h4 : JSt.start.used = 0 := rfl
      have h5 : JSt.start.seq = 0 := rfl
      omega)
    have hop := hid (fun W hA => open_ok d r b 256 D l st hok'.out W hA)
    clear hA hB hok hrow hfl
    by_cases hlt : q < 2
    · have hqi : (q : Int) < 2 := by omega
      have uq := IntWalk.i64_in ((q : Int) + 1) (by omega)
      by_cases hq1 : q = 1
      · have hq1i : ((q : Int) == 1) = true := by rw [hq1]; rfl
        go_wp2_with (first
          | (go_at_call 15; refine (hop.out _ hA4.out).mono ?_; rintro e W5 ⟨j, A5, c5, rfl, hj, hrow5, hA, hk5, hT, hjl⟩; have hJ5 := hid hj; have hA5 := hid hA; have hB5 := hid (dk_below8 hB4.out hT hr.out hb'.out); have hR5 := hid (recs_turned hR4.out hA4.out hT); have hS5 := hid (RecsA.of_row hrow5); have hk5' := hid hk5; have hjj := hid (show j ≠ r ∧ j ≠ b ∧ j ≠ d from by have := hA4.out.lt; omega); have hjw := hid (show w.heap.size ≤ j from Nat.le_trans hB4.out.size hjl); clear hj hrow5 hA hk5 hT hjl hA4 hB4 hR4)
          | (go_at_call 12; refine (errNum_any _ _).mono ?_; rintro e w' ⟨rfl, rfl⟩)
          | (go_at_call 19; refine (sameRecs_any A5 A l.length c5 c (l.map (·.1.1)) _ hS5.out (RecsA.of_row hR5.out) (by have := hll.out; omega)).mono ?_; rintro e W6 ⟨rfl, hb⟩; have hJ6 := hid (hJ5.out.below hb hJ5.out.lt); have hA6 := hid (hA5.out.on hb); have hB6 := hid (bup hb hB5.out); have hR6 := hid (rows_on hR5.out hb); clear hb hJ5 hA5 hB5 hR5 hS5)
          | fail)
        go_loopw [7, 13] (fun av ix wr => ∃ (i : Nat) (D : Dk) (l : Stood) (st : JSt) (A : Option Addr) (c : Nat), i ≤ 9 ∧ i ≤ n2 ∧ ix = .int .i64 (i : Int) ∧ av = .slice A l.length c ∧ JOk D 256 l st ∧ Holds wr j 67 (jCells d st.prev (st.seq : Int) (st.used : Int)) ∧ DiskAt wr d r b 256 D ∧ wr.ownsRow w.heap.size 25 2 (.slice A l.length c) l.length (recsV l) ∧ Below w.heap.size w wr) (fun _ ix _ => 9 - (intOf ix).toNat)
        case atStart => exact ⟨0, _, l, st, A, c, Nat.zero_le _, Nat.zero_le _, rfl, rfl, hk5'.out, hJ6.out, hA6.out, hR6.out, hB6.out⟩
        case round =>
          obtain ⟨i, D1, l1, st1, A7, c7, hi9, hin, rfl, rfl, hok, hj, hA, hrow, hB⟩ := hrel
          obtain ⟨W7, rfl⟩ : ∃ V, V = wr := ⟨_, rfl⟩
          have hJ7 := hid hj
          have hA7 := hid hA
          have hB7 := hid hB
          have hR7 := hid hrow
          have hok1 := hid hok
          clear hj hA hB hrow hok
          by_cases hin2 : i < n2
          · have hi1 : (i : Int) < (n2 : Int) := by omega
            by_cases hi92 : i < 9
            · have hi2 : (i : Int) < 9 := by omega
              have hi0 : (0 : Int) ≤ (i : Int) := by omega
              have u2 := IntWalk.i64_in ((i : Int) + 1) (by omega)
              obtain ⟨p, R, hpA, hpB, hR, -⟩ := hX2.out.get (k := i) hin2
              have hcl := hid (fun V (hV : Below w.heap.size w V) => show ∀ j v, (recV R)[j]? = some v → V.cell? ((p.add (i * 2)).add j) = some v from by
                obtain ⟨p', R', h1, h2, h3, h4⟩ := (hX2.out.below hV).get (k := i) hin2
                rw [hpA] at h1
                obtain rfl := Option.some.inj h1
                rw [hR] at h3
                obtain rfl := Option.some.inj h3
                exact h4)
              subst hpA
              have hll1 := hid (show l1.length ≤ 256 from by
                have h := stand_seq hok1.out.chain
                have h2 := hok1.out.facts.2.1
                have h3 := hok1.out.facts.2.2
                have h4 : JSt.start.used = 0 := rfl
                have h5 : JSt.start.seq = 0 := rfl
                omega)
              have hf0 := hok1.out.facts
              clear hR hpB
              cases hsm : sealMay (st1.seq : Int) R with
              | false =>
                have hap := hid (fun W hJ hA => append_bad j d r b 256 D1 st1 hf0.1 R hsm W hJ hA)
                clear hf0 hsm
                go_wp2_with (first
                  | ((with_reducible refine at_slot (some 65) ?_); refine wpList_plain rfl fun K hK => ?_; refine wp_load_any 25 (.tmp 64) rfl _ rfl (recV R) _ (by exact hcl.out _ hB7.out) Try.underlying25 rfl (by exact recSizeL R) ?_; refine hK _ _ ?_; clear hK K)
                  | (go_at_call 17; refine (hap.out _ hJ7.out hA7.out).mono ?_; rintro e W8 ⟨rfl, hb⟩; have hJ8 := hid (hJ7.out.below hb hJ7.out.lt); have hA8 := hid (hA7.out.on hb); have hB8 := hid (bup hb hB7.out); have hR8 := hid (rows_on hR7.out hb); clear hb hJ7 hA7 hB7 hR7)
                  | (go_at_call 12; refine (errNum_any _ _).mono ?_; rintro e w' ⟨rfl, rfl⟩)
                  | fail)
                go_roundw
                case rel => exact ⟨i + 1, D1, l1, st1, A7, c7, by omega, by omega, by go_num, rfl, hok1.out, hJ8.out, hA8.out, hR8.out, hB8.out⟩
                case measure => simp [intOf]; omega
              | true =>
                by_cases hfit : st1.used + wholes (41 + R.data.size) ≤ 256
                · have hap := hid (fun W hJ hA => append_ok j d r b 256 D1 st1 hf0.1 R hsm hfit W hJ hA hjj.out)
                  have hok2 := hok1.out.append R hsm hfit
                  obtain ⟨D2, hD2⟩ : ∃ x, writeS D1 st1.used (recBytes st1.prev st1.seq R.kind.toNat R.data) (wholes (41 + R.data.size)) = x := ⟨_, rfl⟩
                  obtain ⟨st2, hst2⟩ : ∃ x, st1.pass R (recBytes st1.prev st1.seq R.kind.toNat R.data) = x := ⟨_, rfl⟩
                  obtain ⟨x2, hx2⟩ : ∃ x, asRB st1 R hsm = x := ⟨_, rfl⟩
                  have hx2' := hid (show x2.1.1 = R from by rw [← hx2]; rfl)
                  rw [hD2, hst2] at hap
                  rw [hD2, hst2, hx2] at hok2
                  have hok2' := hid hok2
                  have hlen2 := hid (show (l1 ++ [x2]).length = l1.length + 1 from by rw [List.length_append]; rfl)
                  clear hok2 hD2 hst2 hx2 hf0 hfit hsm
                  go_wp2_with (first
                    | ((with_reducible refine at_slot (some 65) ?_); refine wpList_plain rfl fun K hK => ?_; refine wp_load_any 25 (.tmp 64) rfl _ rfl (recV R) _ (by exact hcl.out _ hB7.out) Try.underlying25 rfl (by exact recSizeL R) ?_; refine hK _ _ ?_; clear hK K)
                    | (go_at_call 17; refine (hap.out _ hJ7.out hA7.out).mono ?_; rintro e W8 ⟨rfl, hj, hA, hT⟩; have hJ8 := hid (show Holds W8 j 67 (jCells d _ _ _) from hj); have hA8 := hid hA; have hB8 := hid (js_below hB7.out hT hjw.out hr.out hb'.out); have hR8 := hid (recs_turnedS hR7.out hA7.out hJ7.out hT); clear hj hA hT hJ7 hA7 hB7 hR7)
                    | (go_at_call 12; refine (errNum_any _ _).mono ?_; rintro e w' ⟨rfl, rfl⟩)
                    | ((with_reducible refine at_slot (some 74) ?_); refine wpList_plain rfl fun K hK => ?_; refine wp_load_any 25 (.tmp 73) rfl _ rfl (recV R) _ (by exact hcl.out _ hB8.out) Try.underlying25 rfl (by exact recSizeL R) ?_; refine hK _ _ ?_; clear hK K)
                    | ((with_reducible refine at_slot (some 75) ?_); refine wpList_pushRec rfl rfl (.tmp 74) (.tmp 70) (.tmp 75) rfl rfl w.heap.size A7 l1.length c7 _ R rfl rfl rfl (by have := hll1.out; omega) hR8.out (by exact hB8.out.size) ?_; intro A9 c9 W9 hrow9 hg9; have hR9 := hid hrow9; have hJ9 := hid (hJ8.out.grown hg9 (fun e => recs_ne hR8.out e.symm hJ8.out (by decide) rfl)); have hA9 := hid (hA8.out.grown hg9 (fun e => (recs_dk hR8.out e.symm hA8.out).1 rfl) (fun e => (recs_dk hR8.out e.symm hA8.out).2.1 rfl) (fun e => (recs_dk hR8.out e.symm hA8.out).2.2 rfl)); have hB9 := hid (hB8.out.grown hg9 hB8.out.size (fun k e => (hR8.out.lt k e).1)); clear hrow9 hg9 hJ8 hA8 hB8 hR8)
                    | fail)
                  go_roundw
                  case rel => exact ⟨i + 1, D2, l1 ++ [x2], st2, A9, c9, by omega, by omega, by go_num, by rw [hlen2.out], hok2'.out, hJ9.out, hA9.out, by rw [hlen2.out, recsV_snoc, hx2'.out]; exact hR9.out, hB9.out⟩
                  case measure => simp [intOf]; omega
                · have hap := hid (fun W hJ hA => append_full j d r b 256 D1 st1 hf0.1 R hsm hf0.2.2 (by omega) W hJ hA)
                  clear hf0 hsm
                  go_wp2_with (first
                    | ((with_reducible refine at_slot (some 65) ?_); refine wpList_plain rfl fun K hK => ?_; refine wp_load_any 25 (.tmp 64) rfl _ rfl (recV R) _ (by exact hcl.out _ hB7.out) Try.underlying25 rfl (by exact recSizeL R) ?_; refine hK _ _ ?_; clear hK K)
                    | (go_at_call 17; refine (hap.out _ hJ7.out hA7.out).mono ?_; rintro e W8 ⟨rfl, hb⟩; have hJ8 := hid (hJ7.out.below hb hJ7.out.lt); have hA8 := hid (hA7.out.on hb); have hB8 := hid (bup hb hB7.out); have hR8 := hid (rows_on hR7.out hb); clear hb hJ7 hA7 hB7 hR7)
                    | (go_at_call 12; refine (errNum_any _ _).mono ?_; rintro e w' ⟨rfl, rfl⟩)
                    | fail)
                  go_roundw
                  case rel => exact ⟨i + 1, D1, l1, st1, A7, c7, by omega, by omega, by go_num, rfl, hok1.out, hJ8.out, hA8.out, hR8.out, hB8.out⟩
                  case measure => simp [intOf]; omega
            · have hi2 : ¬ (i : Int) < 9 := by omega
              go_wp2_with fail
              go_roundw
              case rel => exact ⟨q + 1, D1, l1, st1, A7, c7, by omega, by go_num, rfl, hok1.out, hA7.out, hR7.out, hB7.out⟩
              case measure => simp [intOf]; omega
          · have hi1 : ¬ (i : Int) < (n2 : Int) := by omega
            go_wp2_with fail
            go_roundw
            case rel => exact ⟨q + 1, D1, l1, st1, A7, c7, by omega, by go_num, rfl, hok1.out, hA7.out, hR7.out, hB7.out⟩
            case measure => simp [intOf]; omega
      · have hq1i : ((q : Int) == 1) = false := beq_eq_false_iff_ne.2 (by omega)
        go_wp2_with (first
          | (go_at_call 15; refine (hop.out _ hA4.out).mono ?_; rintro e W5 ⟨j, A5, c5, rfl, hj, hrow5, hA, hk5, hT, hjl⟩; have hJ5 := hid hj; have hA5 := hid hA; have hB5 := hid (dk_below8 hB4.out hT hr.out hb'.out); have hR5 := hid (recs_turned hR4.out hA4.out hT); have hS5 := hid (RecsA.of_row hrow5); have hk5' := hid hk5; have hjj := hid (show j ≠ r ∧ j ≠ b ∧ j ≠ d from by have := hA4.out.lt; omega); have hjw := hid (show w.heap.size ≤ j from Nat.le_trans hB4.out.size hjl); clear hj hrow5 hA hk5 hT hjl hA4 hB4 hR4)
          | (go_at_call 12; refine (errNum_any _ _).mono ?_; rintro e w' ⟨rfl, rfl⟩)
          | (go_at_call 19; refine (sameRecs_any A5 A l.length c5 c (l.map (·.1.1)) _ hS5.out (RecsA.of_row hR5.out) (by have := hll.out; omega)).mono ?_; rintro e W6 ⟨rfl, hb⟩; have hJ6 := hid (hJ5.out.below hb hJ5.out.lt); have hA6 := hid (hA5.out.on hb); have hB6 := hid (bup hb hB5.out); have hR6 := hid (rows_on hR5.out hb); clear hb hJ5 hA5 hB5 hR5 hS5)
          | fail)
        go_loopw [7, 13] (fun av ix wr => ∃ (i : Nat) (D : Dk) (l : Stood) (st : JSt) (A : Option Addr) (c : Nat), i ≤ 9 ∧ i ≤ n1 ∧ ix = .int .i64 (i : Int) ∧ av = .slice A l.length c ∧ JOk D 256 l st ∧ Holds wr j 67 (jCells d st.prev (st.seq : Int) (st.used : Int)) ∧ DiskAt wr d r b 256 D ∧ wr.ownsRow w.heap.size 25 2 (.slice A l.length c) l.length (recsV l) ∧ Below w.heap.size w wr) (fun _ ix _ => 9 - (intOf ix).toNat)
        case atStart => exact ⟨0, _, l, st, A, c, Nat.zero_le _, Nat.zero_le _, rfl, rfl, hk5'.out, hJ6.out, hA6.out, hR6.out, hB6.out⟩
        case round =>
          obtain ⟨i, D1, l1, st1, A7, c7, hi9, hin, rfl, rfl, hok, hj, hA, hrow, hB⟩ := hrel
          obtain ⟨W7, rfl⟩ : ∃ V, V = wr := ⟨_, rfl⟩
          have hJ7 := hid hj
          have hA7 := hid hA
          have hB7 := hid hB
          have hR7 := hid hrow
          have hok1 := hid hok
          clear hj hA hB hrow hok
          by_cases hin2 : i < n1
          · have hi1 : (i : Int) < (n1 : Int) := by omega
            by_cases hi92 : i < 9
            · have hi2 : (i : Int) < 9 := by omega
              have hi0 : (0 : Int) ≤ (i : Int) := by omega
              have u2 := IntWalk.i64_in ((i : Int) + 1) (by omega)
              obtain ⟨p, R, hpA, hpB, hR, -⟩ := hX1.out.get (k := i) hin2
              have hcl := hid (fun V (hV : Below w.heap.size w V) => show ∀ j v, (recV R)[j]? = some v → V.cell? ((p.add (i * 2)).add j) = some v from by
                obtain ⟨p', R', h1, h2, h3, h4⟩ := (hX1.out.below hV).get (k := i) hin2
                rw [hpA] at h1
                obtain rfl := Option.some.inj h1
                rw [hR] at h3
                obtain rfl := Option.some.inj h3
                exact h4)
              subst hpA
              have hll1 := hid (show l1.length ≤ 256 from by
                have h := stand_seq hok1.out.chain
                have h2 := hok1.out.facts.2.1
                have h3 := hok1.out.facts.2.2
                have h4 : JSt.start.used = 0 := rfl
                have h5 : JSt.start.seq = 0 := rfl
                omega)
              have hf0 := hok1.out.facts
              clear hR hpB
              cases hsm : sealMay (st1.seq : Int) R with
              | false =>
                have hap := hid (fun W hJ hA => append_bad j d r b 256 D1 st1 hf0.1 R hsm W hJ hA)
                clear hf0 hsm
                go_wp2_with (first
                  | ((with_reducible refine at_slot (some 65) ?_); refine wpList_plain rfl fun K hK => ?_; refine wp_load_any 25 (.tmp 64) rfl _ rfl (recV R) _ (by exact hcl.out _ hB7.out) Try.underlying25 rfl (by exact recSizeL R) ?_; refine hK _ _ ?_; clear hK K)
                  | (go_at_call 17; refine (hap.out _ hJ7.out hA7.out).mono ?_; rintro e W8 ⟨rfl, hb⟩; have hJ8 := hid (hJ7.out.below hb hJ7.out.lt); have hA8 := hid (hA7.out.on hb); have hB8 := hid (bup hb hB7.out); have hR8 := hid (rows_on hR7.out hb); clear hb hJ7 hA7 hB7 hR7)
                  | (go_at_call 12; refine (errNum_any _ _).mono ?_; rintro e w' ⟨rfl, rfl⟩)
                  | fail)
                go_roundw
                case rel => exact ⟨i + 1, D1, l1, st1, A7, c7, by omega, by omega, by go_num, rfl, hok1.out, hJ8.out, hA8.out, hR8.out, hB8.out⟩
                case measure => simp [intOf]; omega
              | true =>
                by_cases hfit : st1.used + wholes (41 + R.data.size) ≤ 256
                · have hap := hid (fun W hJ hA => append_ok j d r b 256 D1 st1 hf0.1 R hsm hfit W hJ hA hjj.out)
                  have hok2 := hok1.out.append R hsm hfit
                  obtain ⟨D2, hD2⟩ : ∃ x, writeS D1 st1.used (recBytes st1.prev st1.seq R.kind.toNat R.data) (wholes (41 + R.data.size)) = x := ⟨_, rfl⟩
                  obtain ⟨st2, hst2⟩ : ∃ x, st1.pass R (recBytes st1.prev st1.seq R.kind.toNat R.data) = x := ⟨_, rfl⟩
                  obtain ⟨x2, hx2⟩ : ∃ x, asRB st1 R hsm = x := ⟨_, rfl⟩
                  have hx2' := hid (show x2.1.1 = R from by rw [← hx2]; rfl)
                  rw [hD2, hst2] at hap
                  rw [hD2, hst2, hx2] at hok2
                  have hok2' := hid hok2
                  have hlen2 := hid (show (l1 ++ [x2]).length = l1.length + 1 from by rw [List.length_append]; rfl)
                  clear hok2 hD2 hst2 hx2 hf0 hfit hsm
                  go_wp2_with (first
                    | ((with_reducible refine at_slot (some 65) ?_); refine wpList_plain rfl fun K hK => ?_; refine wp_load_any 25 (.tmp 64) rfl _ rfl (recV R) _ (by exact hcl.out _ hB7.out) Try.underlying25 rfl (by exact recSizeL R) ?_; refine hK _ _ ?_; clear hK K)
                    | (go_at_call 17; refine (hap.out _ hJ7.out hA7.out).mono ?_; rintro e W8 ⟨rfl, hj, hA, hT⟩; have hJ8 := hid (show Holds W8 j 67 (jCells d _ _ _) from hj); have hA8 := hid hA; have hB8 := hid (js_below hB7.out hT hjw.out hr.out hb'.out); have hR8 := hid (recs_turnedS hR7.out hA7.out hJ7.out hT); clear hj hA hT hJ7 hA7 hB7 hR7)
                    | (go_at_call 12; refine (errNum_any _ _).mono ?_; rintro e w' ⟨rfl, rfl⟩)
                    | ((with_reducible refine at_slot (some 74) ?_); refine wpList_plain rfl fun K hK => ?_; refine wp_load_any 25 (.tmp 73) rfl _ rfl (recV R) _ (by exact hcl.out _ hB8.out) Try.underlying25 rfl (by exact recSizeL R) ?_; refine hK _ _ ?_; clear hK K)
                    | ((with_reducible refine at_slot (some 75) ?_); refine wpList_pushRec rfl rfl (.tmp 74) (.tmp 70) (.tmp 75) rfl rfl w.heap.size A7 l1.length c7 _ R rfl rfl rfl (by have := hll1.out; omega) hR8.out (by exact hB8.out.size) ?_; intro A9 c9 W9 hrow9 hg9; have hR9 := hid hrow9; have hJ9 := hid (hJ8.out.grown hg9 (fun e => recs_ne hR8.out e.symm hJ8.out (by decide) rfl)); have hA9 := hid (hA8.out.grown hg9 (fun e => (recs_dk hR8.out e.symm hA8.out).1 rfl) (fun e => (recs_dk hR8.out e.symm hA8.out).2.1 rfl) (fun e => (recs_dk hR8.out e.symm hA8.out).2.2 rfl)); have hB9 := hid (hB8.out.grown hg9 hB8.out.size (fun k e => (hR8.out.lt k e).1)); clear hrow9 hg9 hJ8 hA8 hB8 hR8)
                    | fail)
                  go_roundw
                  case rel => exact ⟨i + 1, D2, l1 ++ [x2], st2, A9, c9, by omega, by omega, by go_num, by rw [hlen2.out], hok2'.out, hJ9.out, hA9.out, by rw [hlen2.out, recsV_snoc, hx2'.out]; exact hR9.out, hB9.out⟩
                  case measure => simp [intOf]; omega
                · have hap := hid (fun W hJ hA => append_full j d r b 256 D1 st1 hf0.1 R hsm hf0.2.2 (by omega) W hJ hA)
                  clear hf0 hsm
                  go_wp2_with (first
                    | ((with_reducible refine at_slot (some 65) ?_); refine wpList_plain rfl fun K hK => ?_; refine wp_load_any 25 (.tmp 64) rfl _ rfl (recV R) _ (by exact hcl.out _ hB7.out) Try.underlying25 rfl (by exact recSizeL R) ?_; refine hK _ _ ?_; clear hK K)
                    | (go_at_call 17; refine (hap.out _ hJ7.out hA7.out).mono ?_; rintro e W8 ⟨rfl, hb⟩; have hJ8 := hid (hJ7.out.below hb hJ7.out.lt); have hA8 := hid (hA7.out.on hb); have hB8 := hid (bup hb hB7.out); have hR8 := hid (rows_on hR7.out hb); clear hb hJ7 hA7 hB7 hR7)
                    | (go_at_call 12; refine (errNum_any _ _).mono ?_; rintro e w' ⟨rfl, rfl⟩)
                    | fail)
                  go_roundw
                  case rel => exact ⟨i + 1, D1, l1, st1, A7, c7, by omega, by omega, by go_num, rfl, hok1.out, hJ8.out, hA8.out, hR8.out, hB8.out⟩
                  case measure => simp [intOf]; omega
            · have hi2 : ¬ (i : Int) < 9 := by omega
              go_wp2_with fail
              go_roundw
              case rel => exact ⟨q + 1, D1, l1, st1, A7, c7, by omega, by go_num, rfl, hok1.out, hA7.out, hR7.out, hB7.out⟩
              case measure => simp [intOf]; omega
          · have hi1 : ¬ (i : Int) < (n1 : Int) := by omega
            go_wp2_with fail
            go_roundw
            case rel => exact ⟨q + 1, D1, l1, st1, A7, c7, by omega, by go_num, rfl, hok1.out, hA7.out, hR7.out, hB7.out⟩
            case measure => simp [intOf]; omega
    · obtain rfl : q = 2 := by omega
      have hqi : ¬ ((2 : Nat) : Int) < 2 := by omega
      go_wp2_with (first
        | (go_at_call 15; refine (hop.out _ hA4.out).mono ?_; rintro e W5 ⟨j, A5, c5, rfl, hj, hrow5, hA, hk5, hT, hjl⟩; have hB5 := hid (dk_below8 hB4.out hT hr.out hb'.out); have hR5 := hid (recs_turned hR4.out hA4.out hT); have hS5 := hid (RecsA.of_row hrow5); clear hj hrow5 hA hk5 hT hjl hA4 hB4 hR4)
        | (go_at_call 12; refine (errNum_any _ _).mono ?_; rintro e w' ⟨rfl, rfl⟩)
        | (go_at_call 19; refine (sameRecs_any A5 A l.length c5 c (l.map (·.1.1)) _ hS5.out (RecsA.of_row hR5.out) (by have := hll.out; omega)).mono ?_; rintro e W6 ⟨rfl, hb⟩; have hB6 := hid (bup hb hB5.out); clear hb hB5 hR5 hS5)
        | fail)
      go_ret
      exact ⟨rfl, hB6.out⟩

end Go.Proofs.Ytlicmbmhcpfocaa
