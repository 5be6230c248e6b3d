/- Layer 12, the program's side: rows of unlike texts. -/
import Derived.Test.YtpjfhbmegabafaaLFtD
import Derived.Test.YtpjfhbmegabafaaLObP
import Derived.Test.YtpjfhbmegabafaaLRangeOwn
import Derived.Test.YtpjfhbmegabafaaLBlock
import Derived.StringKeys
namespace Go.Proofs.Ytpjfhbmegabafaa
open Go.RowKit
open Go.Maps (Keyed string_keyed)
attribute [local irreducible] Sha.compress Sha.blocks Sha.sha Sha.pad

def rowPairs (xs : List ByteArray) : List (Value × Value) := xs.zipIdx.map fun p => (.string p.1, .int .i64 (p.2 : Int))
theorem rowPairs_miss {xs : List ByteArray} {x : ByteArray} : mapGet (rowPairs xs) (.string x) none ↔ x ∉ xs := by
  unfold mapGet rowPairs
  constructor
  · intro h hx
    obtain ⟨i, hi, e⟩ := List.mem_iff_getElem.1 hx
    refine h (.string x, .int .i64 (i : Int)) (List.mem_map.2 ⟨(x, i), ?_, rfl⟩) rfl
    rw [List.mem_zipIdx_iff_getElem?]
    rw [List.getElem?_eq_getElem hi, e]
  · intro h p hp e
    obtain ⟨q, hq, rfl⟩ := List.mem_map.1 hp
    rw [List.mem_zipIdx_iff_getElem?] at hq
    injection e with e
    exact h (e ▸ List.mem_of_getElem? hq)
theorem rowPairs_more (xs : List ByteArray) (x : ByteArray) : rowPairs (xs ++ [x]) = rowPairs xs ++ [(.string x, .int .i64 (xs.length : Int))] := by
  unfold rowPairs
  rw [List.zipIdx_append, List.map_append]
  simp
theorem txtKey (s : ByteArray) (hs : s.size ≤ 65536) : ∃ l, keyOf Try.prog 9 (.string s) = some l := ⟨_, WideMaps.keyOf_string_mk Try.underlying9 (by unfold maxLen; omega)⟩
theorem rowPairs_keys (xs : List ByteArray) (hs : ∀ x ∈ xs, x.size ≤ 65536) : ∀ p ∈ rowPairs xs, ∃ l, keyOf Try.prog 9 p.1 = some l := fun p hp => by
  obtain ⟨q, hq, rfl⟩ := List.mem_map.1 hp
  rw [List.mem_zipIdx_iff_getElem?] at hq
  exact txtKey _ (hs _ (List.mem_of_getElem? hq))
theorem txtKeyed : Keyed Try.prog 9 := string_keyed Try.underlying9
theorem mapNil (w : World) : (binOp .eql 136 (.map none) (.map none)).run Try.prog w = .ok (.bool true) w := by kernel_rfl
theorem mapSome (w : World) (b : Nat) : (binOp .eql 136 (.map (some b)) (.map none)).run Try.prog w = .ok (.bool false) w := by kernel_rfl
theorem intZero (w : World) : (zeroValue 3).run Try.prog w = .ok (.int .i64 0) w := by kernel_rfl

/-- A row of unlike texts. -/
structure TRow (w : World) (r B : Nat) (M : Option Nat) (A : Option Addr) (c : Nat) (xs : List ByteArray) : Prop where
  cell : Holds w r 138 [.map M, .slice A xs.length c]
  map : (M = none ∧ xs = []) ∨ ∃ mb, M = some mb ∧ MapAt w mb (rowPairs xs)
  row : w.ownsRow B 9 1 (.slice A xs.length c) xs.length (strs xs)
  small : ∀ x ∈ xs, x.size ≤ 65536
theorem TRow.look {w : World} {r B c : Nat} {M : Option Nat} {A : Option Addr} {xs : List ByteArray} (h : TRow w r B M A c xs) (x : ByteArray) (hx : x.size ≤ 65536) : ∃ v, (x ∈ xs ∧ (Instr.lookup 136 (.map M) (.string x) true).run Try.prog w = .ok (.tuple #[v, .bool true]) w) ∨ (x ∉ xs ∧ (Instr.lookup 136 (.map M) (.string x) true).run Try.prog w = .ok (.tuple #[v, .bool false]) w) := by
  obtain ⟨kl, hkey⟩ := txtKey x hx
  rcases h.map with ⟨rfl, rfl⟩ | ⟨mb, rfl, hm⟩
  · rcases txtKeyed.find w hkey [] (by simp) with ⟨h1, _⟩ | ⟨j, e0, _, h2, _⟩
    · exact ⟨.int .i64 0, .inr ⟨by simp, by simp [Instr.lookup, run_underlying Try.underlying136, txtKeyed.check w _ hkey, h1, Result.andThen]⟩⟩
    · simp at h2
  · rcases hm.look (P := Try.prog) true txtKeyed (rowPairs_keys xs h.small) Try.underlying136 (intZero w) hkey with ⟨h1, h2⟩ | ⟨v, h1, h2⟩
    · exact ⟨.int .i64 0, .inr ⟨rowPairs_miss.1 h2, h1⟩⟩
    · refine ⟨v, .inl ⟨Classical.byContradiction fun hx => ?_, h1⟩⟩
      obtain ⟨p, hp, e, _⟩ := h2
      exact rowPairs_miss.2 hx p hp e

open Classical in
/-- A text put to others, if it is none of them. -/
noncomputable def addT (xs : List ByteArray) (x : ByteArray) : List ByteArray := if x ∈ xs then xs else xs ++ [x]
/-- What is a row's own. -/
def TOwn (M : Option Nat) (A : Option Addr) (n c : Nat) (k : Nat) : Prop := M = some k ∨ (Value.slice A n c).ownBlock = some k
/-- What stands behind a put. -/
structure TPut (w w' : World) (r B : Nat) (M : Option Nat) (A : Option Addr) (c : Nat) (xs : List ByteArray) (x : ByteArray) (M' : Option Nat) (A' : Option Addr) (c' : Nat) : Prop where
  row : TRow w' r B M' A' c' (addT xs x)
  turn : TurnS (fun k => k = r ∨ TOwn M A xs.length c k) w w'
  fresh : ∀ k, TOwn M' A' (addT xs x).length c' k → TOwn M A xs.length c k ∨ w.heap.size ≤ k
theorem addT_old {xs : List ByteArray} {x : ByteArray} (h : x ∈ xs) : addT xs x = xs := if_pos h
theorem addT_new {xs : List ByteArray} {x : ByteArray} (h : x ∉ xs) : addT xs x = xs ++ [x] := if_neg h
theorem TRow.old {w : World} {r B c : Nat} {M : Option Nat} {A : Option Addr} {xs : List ByteArray} {x : ByteArray} (h : TRow w r B M A c xs) (hx : x ∈ xs) : TPut w w r B M A c xs x M A c := by
  refine ⟨?_, TurnS.refl _ _, ?_⟩
  · rw [addT_old hx]; exact h
  · rw [addT_old hx]; exact fun k hk => .inl hk
theorem tput_end {w W0 W1 W2 W3 : World} {r B c mb : Nat} {M : Option Nat} {A A2 : Option Addr} {c2 m : Nat} {xs : List ByteArray} {x : ByteArray} (h : TRow w r B M A c xs) (hx : x ∉ xs) (hs : x.size ≤ 65536) (hmr : mb ≠ r) (hm : xs.length + 1 = m) (hmo : M = some mb ∨ w.heap.size ≤ mb)
    (h0 : Holds W0 r 138 [.map (some mb), .slice A xs.length c]) (hT0 : TurnS (fun k => k = r) w W0) (hM1 : MapAt W1 mb (rowPairs xs ++ [(.string x, .int .i64 (xs.length : Int))])) (hg1 : W0.grownBy W1 (some mb))
    (hrow1 : W1.ownsRow B 9 1 (.slice A xs.length c) xs.length (strs xs)) (hrow : W2.ownsRow B 9 1 (.slice A2 m c2) m (strs (xs ++ [x]))) (hg2 : W1.grownBy W2 (Value.slice A xs.length c).ownBlock) (hF : Fresh W1 (Value.slice A xs.length c).ownBlock (Value.slice A2 m c2).ownBlock)
    (e : W2.setCell ⟨r, 1, none⟩ (.slice A2 m c2) = W3) : TPut w W3 r B M A c xs x (some mb) A2 c2 := by
  subst hm
  have h1 : Holds W1 r 138 [.map (some mb), .slice A xs.length c] := h0.grown hg1 (fun e => hmr (Option.some.inj e).symm)
  have hne : ∀ k, (Value.slice A xs.length c).ownBlock = some k → k ≠ r := fun k e => own_neF hrow1 e h1 (by decide)
  have h2 : Holds W2 r 138 [.map (some mb), .slice A xs.length c] := h1.grown hg2 (fun e => hne r e.symm rfl)
  have hmn : (Value.slice A xs.length c).ownBlock ≠ some mb := fun e => by
    obtain ⟨es, cl, hb, _⟩ := hM1
    obtain ⟨cs, _, _, h3⟩ := own_cells hrow1 e
    rw [hb] at h3
    cases h3
  have hmb2 : MapAt W2 mb (rowPairs xs ++ [(.string x, .int .i64 (xs.length : Int))]) := hM1.block (hg2.block mb hM1.lt (fun e => hmn e.symm))
  have hne2 : ∀ k, (Value.slice A2 (xs.length + 1) c2).ownBlock = some k → k ≠ r := fun k e => own_neF hrow e h2 (by decide)
  subst e
  refine ⟨?_, ⟨hg2.os.trans (hg1.os.trans hT0.os), hg2.tape.trans (hg1.tape.trans hT0.tape), hg2.output.trans (hg1.output.trans hT0.output), by rw [World.size_setCell]; exact Nat.le_trans hT0.size (Nat.le_trans hg1.size hg2.size), fun k hk hq => ?_⟩, fun k hk => ?_⟩
  · rw [addT_new hx]
    refine ⟨?_, .inr ⟨mb, rfl, ?_⟩, ?_, fun y hy => ?_⟩
    · rw [List.length_append]
      exact h2.set 1 _
    · rw [rowPairs_more]
      exact hmb2.far ⟨r, 1, none⟩ hmr _
    · rw [List.length_append]
      exact rown_block hrow fun k hk => heap_setCell_other _ _ _ _ (hne2 k hk)
    · rcases List.mem_append.1 hy with h3 | h3
      · exact h.small y h3
      · rw [List.mem_singleton.1 h3]; exact hs
  · refine (heap_setCell_other _ _ _ _ (fun e => hq (.inl e))).trans ?_
    refine (hg2.block k (Nat.lt_of_lt_of_le hk (Nat.le_trans hT0.size hg1.size)) (fun e => hq (.inr (.inr e.symm)))).trans ?_
    refine (hg1.block k (Nat.lt_of_lt_of_le hk hT0.size) (fun e => ?_)).trans (hT0.block k hk (fun e => hq (.inl e)))
    have e2 := Option.some.inj e
    rcases hmo with h3 | h3
    · exact hq (.inr (.inl (by rw [h3, e2])))
    · omega
  · rw [addT_new hx, List.length_append] at hk
    rcases hk with h3 | h3
    · have e2 := Option.some.inj h3
      exact hmo.imp (fun h4 => .inl (by rw [h4, e2])) (fun h4 => by omega)
    · rcases hF with e2 | ⟨q, e2, hq⟩
      · exact .inl (.inr (by rw [← e2]; exact h3))
      · have e3 : some q = some k := e2.symm.trans h3
        exact .inr (by have := Option.some.inj e3; have := hT0.size; have := hg1.size; omega)

set_option maxRecDepth 100000 in
set_option maxHeartbeats 1000000 in
theorem rowPut_any (r B : Nat) (M : Option Nat) (A : Option Addr) (c : Nat) (xs : List ByteArray) (x : ByteArray) (w : World) (h : TRow w r B M A c xs) (hB : B ≤ w.heap.size) (hk : xs.length ≤ 100000) (hs : x.size ≤ 65536) :
    Calls Try.prog 71 #[.pointer (some ⟨r, 0, none⟩), .string x, .string x] w fun e w' => (∃ v, e = .returned v) ∧ ∃ M' A' c', TPut w w' r B M A c xs x M' A' c' := by
  obtain ⟨v, hlk⟩ := h.look x hs
  have h0 := hid h
  have hB' := hid hB
  have hk' := hid hk
  have hs' := hid hs
  have c0 := h.cell.cO 0 _ rfl
  have c1 := h.cell.cO 1 _ rfl
  have f0 := h.cell.frozen 0
  have hrl := hid h.cell.lt
  clear h hB hk hs
  obtain ⟨m, hmm⟩ : ∃ m, xs.length + 1 = m := ⟨_, rfl⟩
  have hmm' := hid hmm
  clear hmm
  rcases hlk with ⟨hx, hlk⟩ | ⟨hx, hlk⟩
  · have hx' := hid hx
    clear hx
    go_enter Try.func71, Try.ntmps71
    go_wp2_with fail
    go_ret
    exact ⟨⟨_, rfl⟩, _, _, _, h0.out.old hx'.out⟩
  · have hx' := hid hx
    clear hx
    rcases h0.out.map with ⟨rfl, hxs⟩ | ⟨mb, rfl, hm⟩
    · have he := mapNil w
      obtain ⟨mb, hmb⟩ : ∃ g, w.heap.size = g := ⟨_, rfl⟩
      have hmb' := hid hmb
      have hxs' := hid hxs
      obtain ⟨V0, hV0⟩ : ∃ V, w.alloc (.map #[] 0) = V := ⟨_, rfl⟩
      have hb0 : Below w.heap.size w V0 := by rw [← hV0]; exact (Below.refl _ _).alloc (Nat.le_refl _) _
      have hH0 := hid (h0.out.cell.below hb0 h0.out.cell.lt)
      have hmp := hid (show MapAt V0 mb [] from by rw [← hV0, ← hmb]; exact MapAt.new w)
      have hb0' := hid hb0
      have hV0' := hid hV0
      clear hmb hxs hb0 hV0
      go_enter Try.func71, Try.ntmps71
      go_wp2_with (first
        | ((with_reducible refine at_slot (some 25) ?_); refine wpList_run rfl (.map (some mb)) (w.alloc (.map #[] 0)) (by rw [← hmb'.out]; kernel_rfl) ?_; rw [hV0'.out]; clear c0 c1 f0; have c0 := hH0.out.cO 0 _ rfl; have c1 := hH0.out.cO 1 _ rfl; have f0 := hH0.out.frozen 0)
        | fail)
      obtain ⟨W0, hW0⟩ : ∃ V, V0.setCell ⟨r, 0, none⟩ (.map (some mb)) = V := ⟨_, rfl⟩
      have hC0 := hid (show Holds W0 r 138 [.map (some mb), .slice A xs.length c] from by rw [← hW0]; exact hH0.out.set 0 _)
      have hM0 := hid (show MapAt W0 mb (rowPairs xs) from by rw [← hW0, hxs'.out]; exact hmp.out.far ⟨r, 0, none⟩ (by have := hrl.out; have := hmb'.out; show mb ≠ r; omega) _)
      have hT0 := hid (show TurnS (fun k => k = r) w W0 from by rw [← hW0]; exact ⟨hb0'.out.os, hb0'.out.tape, hb0'.out.output, by rw [World.size_setCell]; exact hb0'.out.size, fun k hk hne => (heap_setCell_other _ _ _ _ hne).trans (hb0'.out.block k hk)⟩)
      have hR0 := hid (show W0.ownsRow B 9 1 (.slice A xs.length c) xs.length (strs xs) from by
        have hne : ∀ k, (Value.slice A xs.length c).ownBlock = some k → k ≠ r := fun k e => own_neF h0.out.row e h0.out.cell (by decide)
        exact rown_block h0.out.row fun k hk => hT0.out.block k (h0.out.row.lt k hk).2 (hne k hk))
      have hmo := hid (show (none : Option Nat) = some mb ∨ w.heap.size ≤ mb from .inr (by have := hmb'.out; omega))
      have hmr := hid (show mb ≠ r from by have := hrl.out; have := hmb'.out; omega)
      rw [hW0]
      clear hW0 hH0 hmp c0 c1 f0 hlk he
      have hMd := hid (show MapAt W0.drew mb (rowPairs xs) from hM0.out)
      have hCd := hid (show Holds W0.drew r 138 [.map (some mb), .slice A xs.length c] from hC0.out)
      have hRd := hid (rown_onF hR0.out ((Below.refl W0.heap.size W0).drew))
      have hTd := hid (show TurnS (fun k => k = r) w W0.drew from ⟨hT0.out.os, hT0.out.tape, hT0.out.output, hT0.out.size, hT0.out.block⟩)
      have hzd := hid (show w.heap.size ≤ W0.drew.heap.size from hT0.out.size)
      refine wp_region_held_drew (S := fun V => V.cell? ⟨r, 0, none⟩ = some (.map (some mb)) ∧ V.cell? ⟨r, 1, none⟩ = some (.slice A xs.length c)) (by kernel_rfl) (by exact ⟨hCd.out.cO 0 _ rfl, hCd.out.cO 1 _ rfl⟩) (fun hHeld => ?_)
      clear hM0 hC0 hR0 hT0
      generalize W0.drew = Wd at *
      refine tkx 0 (.pointer (some ⟨r, 0, none⟩)) hHeld ?_; simp only [ly, Act.put]
      refine tkx 1 (.pointer (some ⟨r, 0, none⟩)) hHeld ?_; simp only [ly, Act.put]
      refine tkx 2 (.pointer (some ⟨r, 0, none⟩)) hHeld ?_; simp only [ly, Act.put]
      refine tkx 3 (.map (some mb)) hHeld ?_ (hy := .inl ⟨by kernel_rfl, fun V hS => by have c1 := hS.1; go_simp⟩); simp only [ly, Act.put]
      refine tkx 4 (.string x) hHeld ?_; simp only [ly, Act.put]
      refine tkx 5 (.pointer (some ⟨r, 0, none⟩)) hHeld ?_; simp only [ly, Act.put]
      refine tkx 6 (.pointer (some ⟨r, 0, none⟩)) hHeld ?_; simp only [ly, Act.put]
      refine tkx 7 (.pointer (some ⟨r, 1, none⟩)) hHeld ?_; simp only [ly, Act.put]
      refine tkx 8 (.slice A xs.length c) hHeld ?_ (hy := .inl ⟨by kernel_rfl, fun V hS => by have c1 := hS.2; go_simp⟩); simp only [ly, Act.put]
      refine tkx 9 (.int .i64 (xs.length : Int)) hHeld ?_; simp only [ly, Act.put]
      obtain ⟨kl, hkey⟩ := txtKey x hs'.out
      obtain ⟨W1, hr, hm1, hz1, hk1, hg1⟩ := hMd.out.put (P := Try.prog) txtKeyed (rowPairs_keys xs h0.out.small) Try.underlying136 hkey (rowPairs_miss.2 hx'.out) (.int .i64 (xs.length : Int))
      refine wpAnyH_ready (rs := [10]) (by kernel_rfl) (by simp) (AllReadyH.cons rfl (fun K hK => ?_) AllReadyH.nil)
      have hK' := hid hK
      clear hK
      rw [if_pos (by kernel_rfl)]
      simp only [ly1, ly2, ly3]
      refine wp_mapPut (.tmp 31) (.tmp 32) (.tmp 37) _ rfl (.map (some mb)) (.string x) (.int .i64 (xs.length : Int)) rfl rfl rfl (by exact hr) ?_
      have hC1 : Holds W1 r 138 [.map (some mb), .slice A xs.length c] := hCd.out.grown hg1 (fun e => hmr.out (Option.some.inj e).symm)
      have hR1 := hid (show W1.ownsRow B 9 1 (.slice A xs.length c) xs.length (strs xs) from rown_block hRd.out fun k hk => hg1.block k (hRd.out.lt k hk).2 (fun e => by
        have e2 := Option.some.inj e
        obtain ⟨es, cl, hb, _⟩ := hMd.out
        obtain ⟨cs, _, _, h3⟩ := own_cells hRd.out hk
        rw [e2, hb] at h3
        cases h3))
      have c0 := hC1.cO 0 _ rfl
      have c1 := hC1.cO 1 _ rfl
      refine hK'.out _ _ ⟨c0, c1⟩ (fun hHeld => ?_)
      clear hK' K
      refine wpAnyH_done (by kernel_rfl) ?_ _
      have hg1' := hid hg1
      have hm1' := hid hm1
      have hC1' := hid hC1
      clear hr hk1 hg1 hm1 hC1 hkey hHeld
      go_wp2_with (first
        | ((with_reducible refine at_slot (some 44) ?_); refine wpList_pushTextF rfl rfl (.tmp 43) (.tmp 42) (.tmp 44) rfl rfl B A xs.length c xs x rfl rfl rfl (by have := hk'.out; omega) (by exact hR1.out) (by have := hB'.out; have := hzd.out; omega) m hmm'.out ?_; intro A2 c2 W2 hrow hgr hfr; have hrow' := hid hrow; have hgr' := hid hgr; have hfr' := hid hfr; have hC2 := hC1'.out.grown hgr (fun e => own_neF hR1.out e.symm hC1'.out (by decide) rfl); clear c0 c1 hrow hgr hfr; have c0 := hC2.cO 0 _ rfl; have c1 := hC2.cO 1 _ rfl; have f1 := hC2.frozen 1; clear hC2)
        | fail)
      obtain ⟨W3, hW3⟩ : ∃ V, W2.setCell ⟨r, 1, none⟩ (.slice A2 m c2) = V := ⟨_, rfl⟩
      go_ret
      exact ⟨⟨_, rfl⟩, some mb, A2, c2, tput_end h0.out hx'.out hs'.out hmr.out hmm'.out (by first | exact hmo.out | exact .inl rfl) hCd.out hTd.out hm1'.out hg1'.out hR1.out hrow'.out hgr'.out hfr'.out rfl⟩
    · have hM0 := hid hm
      have he := mapSome w mb
      have hC0 := hid h0.out.cell
      have hR0 := hid h0.out.row
      have hT0 := hid (TurnS.refl (fun k => k = r) w)
      have hmo := hid (show (some mb : Option Nat) = some mb ∨ w.heap.size ≤ mb from .inl rfl)
      have hmr := hid (show mb ≠ r from fun e => by
        obtain ⟨es, cl, hb, _⟩ := hm
        have h3 := h0.out.cell
        rw [e] at hb
        unfold Holds at h3
        rw [hb] at h3
        cases h3)
      clear hm
      go_enter Try.func71, Try.ntmps71
      go_wp2_with fail
      obtain ⟨W0, hW0⟩ : ∃ V, w = V := ⟨_, rfl⟩
      rw [hW0] at hC0 hM0 hR0 ⊢
      have hT0 := hid (show TurnS (fun k => k = r) w W0 from by rw [← hW0]; exact TurnS.refl _ _)
      clear hW0 c0 c1 f0 hlk he
      have hMd := hid (show MapAt W0.drew mb (rowPairs xs) from hM0.out)
      have hCd := hid (show Holds W0.drew r 138 [.map (some mb), .slice A xs.length c] from hC0.out)
      have hRd := hid (rown_onF hR0.out ((Below.refl W0.heap.size W0).drew))
      have hTd := hid (show TurnS (fun k => k = r) w W0.drew from ⟨hT0.out.os, hT0.out.tape, hT0.out.output, hT0.out.size, hT0.out.block⟩)
      have hzd := hid (show w.heap.size ≤ W0.drew.heap.size from hT0.out.size)
      refine wp_region_held_drew (S := fun V => V.cell? ⟨r, 0, none⟩ = some (.map (some mb)) ∧ V.cell? ⟨r, 1, none⟩ = some (.slice A xs.length c)) (by kernel_rfl) (by exact ⟨hCd.out.cO 0 _ rfl, hCd.out.cO 1 _ rfl⟩) (fun hHeld => ?_)
      clear hM0 hC0 hR0 hT0
      generalize W0.drew = Wd at *
      refine tkx 0 (.pointer (some ⟨r, 0, none⟩)) hHeld ?_; simp only [ly, Act.put]
      refine tkx 1 (.pointer (some ⟨r, 0, none⟩)) hHeld ?_; simp only [ly, Act.put]
      refine tkx 2 (.pointer (some ⟨r, 0, none⟩)) hHeld ?_; simp only [ly, Act.put]
      refine tkx 3 (.map (some mb)) hHeld ?_ (hy := .inl ⟨by kernel_rfl, fun V hS => by have c1 := hS.1; go_simp⟩); simp only [ly, Act.put]
      refine tkx 4 (.string x) hHeld ?_; simp only [ly, Act.put]
      refine tkx 5 (.pointer (some ⟨r, 0, none⟩)) hHeld ?_; simp only [ly, Act.put]
      refine tkx 6 (.pointer (some ⟨r, 0, none⟩)) hHeld ?_; simp only [ly, Act.put]
      refine tkx 7 (.pointer (some ⟨r, 1, none⟩)) hHeld ?_; simp only [ly, Act.put]
      refine tkx 8 (.slice A xs.length c) hHeld ?_ (hy := .inl ⟨by kernel_rfl, fun V hS => by have c1 := hS.2; go_simp⟩); simp only [ly, Act.put]
      refine tkx 9 (.int .i64 (xs.length : Int)) hHeld ?_; simp only [ly, Act.put]
      obtain ⟨kl, hkey⟩ := txtKey x hs'.out
      obtain ⟨W1, hr, hm1, hz1, hk1, hg1⟩ := hMd.out.put (P := Try.prog) txtKeyed (rowPairs_keys xs h0.out.small) Try.underlying136 hkey (rowPairs_miss.2 hx'.out) (.int .i64 (xs.length : Int))
      refine wpAnyH_ready (rs := [10]) (by kernel_rfl) (by simp) (AllReadyH.cons rfl (fun K hK => ?_) AllReadyH.nil)
      have hK' := hid hK
      clear hK
      rw [if_pos (by kernel_rfl)]
      simp only [ly1, ly2, ly3]
      refine wp_mapPut (.tmp 31) (.tmp 32) (.tmp 37) _ rfl (.map (some mb)) (.string x) (.int .i64 (xs.length : Int)) rfl rfl rfl (by exact hr) ?_
      have hC1 : Holds W1 r 138 [.map (some mb), .slice A xs.length c] := hCd.out.grown hg1 (fun e => hmr.out (Option.some.inj e).symm)
      have hR1 := hid (show W1.ownsRow B 9 1 (.slice A xs.length c) xs.length (strs xs) from rown_block hRd.out fun k hk => hg1.block k (hRd.out.lt k hk).2 (fun e => by
        have e2 := Option.some.inj e
        obtain ⟨es, cl, hb, _⟩ := hMd.out
        obtain ⟨cs, _, _, h3⟩ := own_cells hRd.out hk
        rw [e2, hb] at h3
        cases h3))
      have c0 := hC1.cO 0 _ rfl
      have c1 := hC1.cO 1 _ rfl
      refine hK'.out _ _ ⟨c0, c1⟩ (fun hHeld => ?_)
      clear hK' K
      refine wpAnyH_done (by kernel_rfl) ?_ _
      have hg1' := hid hg1
      have hm1' := hid hm1
      have hC1' := hid hC1
      clear hr hk1 hg1 hm1 hC1 hkey hHeld
      go_wp2_with (first
        | ((with_reducible refine at_slot (some 44) ?_); refine wpList_pushTextF rfl rfl (.tmp 43) (.tmp 42) (.tmp 44) rfl rfl B A xs.length c xs x rfl rfl rfl (by have := hk'.out; omega) (by exact hR1.out) (by have := hB'.out; have := hzd.out; omega) m hmm'.out ?_; intro A2 c2 W2 hrow hgr hfr; have hrow' := hid hrow; have hgr' := hid hgr; have hfr' := hid hfr; have hC2 := hC1'.out.grown hgr (fun e => own_neF hR1.out e.symm hC1'.out (by decide) rfl); clear c0 c1 hrow hgr hfr; have c0 := hC2.cO 0 _ rfl; have c1 := hC2.cO 1 _ rfl; have f1 := hC2.frozen 1; clear hC2)
        | fail)
      obtain ⟨W3, hW3⟩ : ∃ V, W2.setCell ⟨r, 1, none⟩ (.slice A2 m c2) = V := ⟨_, rfl⟩
      go_ret
      exact ⟨⟨_, rfl⟩, some mb, A2, c2, tput_end h0.out hx'.out hs'.out hmr.out hmm'.out (by first | exact hmo.out | exact .inl rfl) hCd.out hTd.out hm1'.out hg1'.out hR1.out hrow'.out hgr'.out hfr'.out rfl⟩

end Go.Proofs.Ytpjfhbmegabafaa
