/- Layer 12, the reference's side: OnceHash.
   Layer 12, the reference's side: the hashes within a text. -/
import Derived.Test.YtpjfhbmegabafaaLFtKo
import Derived.Test.YtpjfhbmegabafaaLRefHg
namespace Go.Proofs.Ytpjfhbmegabafaa
open Go.RowKit
open Go.Lib (strCells strCells_length strCells_oneCell)
attribute [local irreducible] Sha.compress Sha.blocks Sha.sha Sha.pad

section
variable {ops : Array Oper} {rest : List Oper} {a : Act} {w : World} {Q : Exit → Act → World → Prop}
theorem wpList_pushHashG {o1 o2 : Oper} (hg1 : o1.guard = none) (hg2 : o2.guard = none) (x s y : Operand) (ho1 : o1.op = .buildSlice 62 1 #[(0, x)]) (ho2 : o2.op = .call { callee := .builtin .append, args := #[s, y], argTypes := #[62, 62] })
    (B : Nat) (A : Option Addr) (n c : Nat) (cs : List Value) (l : List UInt8) (h32 : l.length = 32) (hx : a.eval x = .agg (byteCells l).toArray) (hs : (a.put o1.dst (.slice (some ⟨w.heap.size, 0, none⟩) 1 1)).eval s = .slice A n c) (hy : (a.put o1.dst (.slice (some ⟨w.heap.size, 0, none⟩) 1 1)).eval y = .slice (some ⟨w.heap.size, 0, none⟩) 1 1)
    (h63 : n ≤ 1000000) (hown : w.ownsRow B 33 32 (.slice A n c) n cs) (hB : B ≤ w.heap.size)
    (m : Nat) (hm : n + 1 = m) (h : ∀ A2 c2 w', w'.ownsRow B 33 32 (.slice A2 m c2) m (cs ++ byteCells l) → w.grownBy w' (Value.slice A n c).ownBlock → Fresh w (Value.slice A n c).ownBlock (Value.slice A2 m c2).ownBlock → wpList Try.prog ops Q rest ((a.put o1.dst (.slice (some ⟨w.heap.size, 0, none⟩) 1 1)).put o2.dst (.slice A2 m c2)) w') :
    wpList Try.prog ops Q (o1 :: o2 :: rest) a w := by
  subst hm
  have hC := hash_cells l h32
  obtain ⟨i0, hi0, hz0, hz1, hz2⟩ := info_parts Try.infoHashD
  have hb1 : Below w.heap.size w (w.alloc (.cells (byteCells l).toArray 33)) := (Below.refl _ _).alloc (Nat.le_refl _) _
  refine wpList_plain hg1 fun K hK => ?_
  refine wp_build_oneF 62 33 x ho1 i0 _ Try.underlying62 hi0 hz0 (byteCells l).toArray hx (by rw [hz1, List.size_toArray, hC.len]) (by rw [List.size_toArray, hC.len]; decide) (by rw [List.size_toArray, hC.len]; decide) ?_
  refine hK _ _ ?_
  clear hK K
  refine wpList_plain hg2 fun K hK => ?_
  refine wp_appendH s y ho2 B A n c w.heap.size cs l hs hy h32 h63 (rown_onF hown hb1) (Holds.new w 33 (byteCells l).toArray) (Nat.le_trans hB hb1.size) ?_
  intro A2 c2 w' hrow hg hf
  refine hK _ _ (h A2 c2 w' hrow ⟨hg.os.trans hb1.os, hg.tape.trans hb1.tape, hg.output.trans hb1.output, Nat.le_trans hb1.size hg.size, fun k hk hne => (hg.block k (Nat.lt_of_lt_of_le hk hb1.size) hne).trans (hb1.block k hk)⟩ ?_)
  rcases hf with e | ⟨k, e, hk⟩
  · exact .inl e
  · exact .inr ⟨k, e, Nat.le_trans hb1.size hk⟩
end
theorem hashCells_snoc (hs : List (List UInt8)) (x : List UInt8) : hashCells (hs ++ [x]) = hashCells hs ++ byteCells x := by
  unfold hashCells
  rw [List.flatMap_append]
  simp
theorem RowH.cells {w : World} {b : Nat} {hs : List (List UInt8)} (h : RowH w b hs) (h32 : ∀ x ∈ hs, x.length = 32) {i : Nat} {x : List UInt8} (hx : hs[i]? = some x) : ∀ j v, (byteCells x)[j]? = some v → w.cell? (((⟨b, 0, none⟩ : Addr).add (i * 32)).add j) = some v := fun j v hj => by
  have := h.range h32 hx j v hj
  rw [Addr.add_mid, Addr.add_mid, Nat.zero_add]
  exact this
set_option maxRecDepth 100000 in
set_option maxHeartbeats 2000000 in
theorem onceHash_any (B : Nat) (A : Option Addr) (n c : Nat) (xs : List (List UInt8)) (x : List UInt8) (hx32 : x.length = 32) (h32 : ∀ y ∈ xs, y.length = 32) (w : World) (h : w.ownsRow B 33 32 (.slice A n c) n (hashCells xs)) (hB : B ≤ w.heap.size) (hn : n ≤ 100000) :
    Calls Try.prog 61 #[.slice A n c, .agg (byteCells x).toArray] w fun e w' => ∃ A' m c', e = .returned (.slice A' m c') ∧ w'.ownsRow B 33 32 (.slice A' m c') m (hashCells (addH xs x)) ∧ w.grownBy w' (Value.slice A n c).ownBlock ∧ Fresh w (Value.slice A n c).ownBlock (Value.slice A' m c').ownBlock := by
  obtain ⟨b, hA, hT, -, hoB, -⟩ := own_rowH h
  have hlen := (own_hashs h h32).len
  obtain ⟨kc, hkc⟩ : ∃ c, byteCells x = c := ⟨_, rfl⟩
  have hKC := hid (show HashCells kc from by rw [← hkc]; exact hash_cells x hx32)
  have hKC2 := hid (show (Try.prog.info? 33).map (·.size) = some kc.length from by have := hKC.out.size; rwa [List.size_toArray] at this)
  obtain ⟨W0, hW0⟩ : ∃ W0, w.alloc (.cells kc.toArray 33) = W0 := ⟨_, rfl⟩
  have hb0 : Below w.heap.size w W0 := by rw [← hW0]; exact (Below.refl _ _).alloc (Nat.le_refl _) _
  have hK0 := hid (show Holds W0 w.heap.size 33 kc from by rw [← hW0]; exact Holds.new w 33 kc.toArray)
  have hB0 := hid hb0
  have hW0' := hid hW0
  have h' := hid h
  have hB' := hid hB
  have hn' := hid hn
  have hA' := hid hA
  have hT' := hid hT
  have hl' := hid hlen
  have h32' := hid h32
  have hx32' := hid hx32
  have hkc' := hid hkc
  have hoB' := hid hoB
  rw [hkc]
  clear h hB hn hA hT hlen h32 hx32 hkc hW0 hb0 hoB
  go_enter Try.func61, Try.ntmps61
  go_wp2_with (first
    | ((with_reducible refine at_slot (some 3) ?_); refine wpList_run rfl (.pointer (some ⟨w.heap.size, 0, none⟩)) (w.alloc (.cells kc.toArray 33)) (by kernel_rfl) ?_; rw [hW0'.out])
    | fail)
  go_loopw [5] (fun ix wr => ∃ i : Nat, i ≤ n ∧ ix = .int .i64 (i : Int) ∧ Hid (∀ j, j < i → xs[j]? ≠ some x) ∧ Holds wr w.heap.size 33 kc ∧ Below w.heap.size w wr) (fun ix _ => n - (intOf ix).toNat)
  case atStart => exact ⟨0, Nat.zero_le _, rfl, hid (fun j hj => absurd hj (Nat.not_lt_zero j)), hK0.out, hB0.out⟩
  case round =>
    obtain ⟨i, hi, rfl, hno, hKr, hBr⟩ := hrel
    have hK1 := hid hKr
    have hB1 := hid hBr
    clear hKr hBr
    by_cases hlt : i < n
    · obtain ⟨y, hy⟩ : ∃ y, xs[i]? = some y := ⟨_, List.getElem?_eq_getElem (by rw [hl'.out]; exact hlt)⟩
      obtain rfl := hA'.out (by omega)
      have hy32 := hid (h32'.out y (List.mem_of_getElem? hy))
      have hy' := hid hy
      have hlt' : (i : Int) < (n : Int) := by omega
      have s3 : (0 : Int) ≤ (i : Int) := by omega
      have hiw := IntWalk.i64_in ((i : Int) + 1) (by have := hn'.out; omega)
      have hcl := hid (fun (V : World) (hV : RowH V b xs) => RowH.cells hV h32'.out hy)
      have hpc2 := hid (show (Try.prog.info? 33).map (·.size) = some (byteCells y).length from by have := (hash_cells y hy32.out).size; rwa [List.size_toArray] at this)
      obtain ⟨e, he⟩ : ∃ e, (y == x) = e := ⟨_, rfl⟩
      have he' := hid he
      clear he hy
      go_wp2_with fail
      have hb : Below wr.heap.size wr wr.drew := (Below.refl _ _).drew
      have hK2 := hid (hK1.out.below hb hK1.out.lt)
      have hB2 := hid (below_up hb hB1.out)
      clear hb hK1 hB1
      refine wp_region_held_drew (S := fun V => Holds V w.heap.size 33 kc ∧ RowH V b xs) (by kernel_rfl) (by exact ⟨hK2.out, (hT'.out (by omega)).on (hB2.out.block b (hoB'.out (by omega)).2)⟩) (fun hHeld => ?_)
      generalize wr.drew = W2 at *
      refine tkn 0 (.slice (some ⟨b, 0, none⟩) n c) rfl (by kernel_rfl) (fun _ _ _ h => h) (yieldsIf_move _ rfl rfl rfl) hHeld ?_
      simp only [ly, Act.put]
      refine tkn 1 (.int .i64 (i : Int)) rfl (by kernel_rfl) (fun _ _ _ h => h) (yieldsIf_move _ rfl rfl rfl) hHeld ?_
      simp only [ly, Act.put]
      refine tkn 2 (.pointer (some ((⟨b, 0, none⟩ : Addr).add (i * 32)))) rfl (by kernel_rfl) (fun _ _ _ h => h) (.inl ⟨by kernel_rfl, fun w _ => by go_simp⟩) hHeld ?_
      simp only [ly, Act.put]
      refine tkn 3 (.agg (byteCells y).toArray) rfl (by kernel_rfl) (fun _ _ _ h => h) (yieldsIf_load_any (by kernel_rfl) _ _ rfl ((⟨b, 0, none⟩ : Addr).add (i * 32)) rfl (byteCells y) _ (fun V hS => hcl.out V hS.2) Try.underlying33 rfl (by exact hpc2.out)) hHeld ?_
      simp only [ly, Act.put]
      refine tkn 4 (.agg kc.toArray) rfl (by kernel_rfl) (fun _ _ _ h => h) (yieldsIf_load_any (by kernel_rfl) _ _ rfl ⟨w.heap.size, 0, none⟩ rfl kc _ (fun V hS => hS.1.anyO) Try.underlying33 rfl (by exact hKC2.out)) hHeld ?_
      simp only [ly, Act.put]
      refine tkn 5 (.bool e) rfl (by kernel_rfl) (fun _ _ _ h => h) (yieldsIf_zeql (by kernel_rfl) (.tmp 15) (.tmp 16) _ rfl y x (by exact hy32.out) (by exact hx32'.out) e (by exact he'.out) rfl (by rw [hkc'.out]; rfl)) hHeld ?_
      simp only [ly, Act.put]
      refine wpAnyH_done (by kernel_rfl) ?_ _
      clear hHeld
      cases e
      · have hno2 := hid (show ∀ j, j < i + 1 → xs[j]? ≠ some x from fun j hj hq => by
          by_cases h : j < i
          · exact hno.out j h hq
          · have e : j = i := by omega
            subst e
            rw [hy'.out] at hq
            exact beq_eq_false_iff_ne.1 he'.out (Option.some.inj hq))
        go_wp2_with fail
        go_roundw
        case rel => exact ⟨i + 1, by omega, by go_num, hno2, hK2.out, hB2.out⟩
        case measure => simp [intOf]; omega
      · have hm := hid (show x ∈ xs from by rw [← eq_of_beq he'.out]; exact List.mem_of_getElem? hy'.out)
        go_wp2_with fail
        go_ret
        exact ⟨_, _, _, rfl, by rw [addH_old hm.out]; exact rown_onF h'.out hB2.out, gr_of hB2.out _, .inl rfl⟩
    · have hlt' : ¬ (i : Int) < (n : Int) := by omega
      obtain rfl : i = n := by omega
      have hm := hid (show x ∉ xs from fun hx => by
        obtain ⟨j, hj, e⟩ := List.mem_iff_getElem.1 hx
        exact hno.out j (by have := hl'.out; omega) (by rw [List.getElem?_eq_getElem hj, e]))
      have hO1 := hid (rown_onF h'.out hB1.out)
      have hB9 := hid (Nat.le_trans hB'.out hB1.out.size)
      have hKh : wr.heap[w.heap.size]? = some (.cells kc.toArray 33 (0, 0)) := hK1.out
      have hKh' := hid hKh
      clear hKh hno
      go_wp2_with (first
        | ((with_reducible refine at_slot (some 20) ?_); refine wpList_load_row rfl 33 (.tmp 3) rfl w.heap.size rfl 33 kc.toArray (0, 0) _ hKh'.out Try.underlying33 rfl (by rw [List.size_toArray]; exact hKC2.out) ?_)
        | ((with_reducible refine at_slot (some 21) ?_); refine wpList_pushHashG rfl rfl (.tmp 20) (.tmp 19) (.tmp 21) rfl rfl B A i c (hashCells xs) x hx32'.out (by rw [hkc'.out]; rfl) rfl rfl (by have := hn'.out; omega) (by exact hO1.out) (by exact hB9.out) _ rfl ?_; intro A2 c2 W2 hrow hgr hfr; have hrow' := hid hrow; have hgr' := hid hgr; have hfr' := hid hfr; clear hrow hgr hfr)
        | fail)
      go_ret
      refine ⟨_, _, _, rfl, by rw [addH_new hm.out, hashCells_snoc]; exact hrow'.out, gr_trans (gr_of hB1.out _) hgr'.out, ?_⟩
      rcases hfr'.out with e | ⟨k, e, hk⟩
      · exact .inl e
      · exact .inr ⟨k, e, Nat.le_trans hB1.out.size hk⟩
end Go.Proofs.Ytpjfhbmegabafaa
namespace Go.Proofs.Ytpjfhbmegabafaa
open Go.RowKit
open Go.Lib (strCells strCells_length strCells_oneCell)
attribute [local irreducible] Sha.compress Sha.blocks Sha.sha Sha.pad

/-- What hashes answers. -/
def HhsPost (w : World) (b : Bool) (ps : List (List UInt8)) (e : Ending) (w' : World) : Prop :=
  Below w.heap.size w w' ∧ match b with
  | false => e = .returned (.tuple #[.slice none 0 0, .bool false])
  | true => ∃ A' n c', e = .returned (.tuple #[.slice A' n c', .bool true]) ∧ w'.ownsRow (w.heap.size + 1) 33 32 (.slice A' n c') n (hashCells ps) ∧ ps.length = n ∧ ∀ p ∈ ps, p.length = 32

theorem two_list {s : ByteArray} {a b : UInt8} {l : List UInt8} (h : s.data.toList = a :: b :: l) : (s.extract 0 2).toList = [a, b] := by
  have e : (s.extract 0 2).data.toList = [a, b] := by
    rw [ByteArray.data_extract, Array.toList_extract, List.extract_eq_take_drop, h]; rfl
  rw [Lib.toList_data, e]
theorem one_list {s : ByteArray} {a b : UInt8} {l : List UInt8} (h : s.data.toList = a :: b :: l) : s.extract 0 1 = ⟨#[a]⟩ := by
  apply bytes_ext
  rw [ByteArray.data_extract, Array.toList_extract, List.extract_eq_take_drop, h]; rfl
theorem be_one {n : Nat} : (be 1 n).toList = [UInt8.ofNat n] := by
  rw [Lib.toList_data]
  show (beL 1 n).toArray.toList = _
  unfold beL
  simp [List.range_succ]
theorem node_three {s : ByteArray} {m : UInt8} {n : Nat} (hn : n ≤ 255) {a b : UInt8} {l : List UInt8} (h : s.data.toList = a :: b :: l) (hz : s.size = 2 + n * 32) : isNodeT s ⟨#[m]⟩ n = (a == m && b.toNat == n) := by
  have e : ((⟨#[m]⟩ : ByteArray) ++ be 1 n).toList = [m, UInt8.ofNat n] := by
    rw [Lib.toList_data, ByteArray.data_append, Array.toList_append, ← Lib.toList_data (be 1 n), be_one]
    rfl
  unfold isNodeT
  rw [decide_eq_true hz, e, two_list h, Bool.true_and]
  have h2 : (b = UInt8.ofNat n) ↔ b.toNat = n := by
    constructor
    · intro h; rw [h]; simp; omega
    · intro h; rw [← h]; simp
  have h3 : (b == UInt8.ofNat n) = (b.toNat == n) := by
    rw [Bool.eq_iff_iff, beq_iff_eq, beq_iff_eq]
    exact h2
  show (a == m && (b == UInt8.ofNat n && true)) = _
  rw [h3, Bool.and_true]
theorem pcs_in {s : ByteArray} {m : UInt8} {n : Nat} (hm : m ≠ 66) (hz : s.size = 2 + n * 32) (h1 : s.extract 0 1 = ⟨#[m]⟩) : (pcs (insideT s)).length = n ∧ ∀ i, i < n → (pcs (insideT s))[i]? = some ((s.data.toList.drop (2 + i * 32)).take 32) := by
  have hne : ¬ s.extract 0 1 = ⟨#[66]⟩ := by
    rw [h1]
    intro e
    injection e with e
    injection e with e
    injection e with e
    exact hm e
  have hi : insideT s = s.extract 2 s.size := if_neg hne
  have hsz : (insideT s).size = n * 32 := by rw [hi, ByteArray.size_extract]; omega
  have hc : cutN 32 (insideT s).size = n := by unfold cutN; rw [hsz]; omega
  have hd : (insideT s).data.toList = s.data.toList.drop 2 := by
    rw [hi, ByteArray.data_extract, Array.toList_extract, List.extract_eq_take_drop, List.take_of_length_le]
    rw [List.length_drop]
    exact Nat.le_refl _
  refine ⟨by rw [pcs_len, hc], fun i hlt => ?_⟩
  unfold pcs pc
  rw [List.getElem?_map, List.getElem?_range (by omega), hd]
  simp [List.drop_drop]
set_option maxRecDepth 100000 in
set_option maxHeartbeats 2000000 in
theorem hashesR_any (s : ByteArray) (m : UInt8) (n : Nat) (hm : m ≠ 66) (hn : n ≤ 255) (w : World) (hS : s.size ≤ 140737488351232) :
    Calls Try.prog 59 #[.string s, .string ⟨#[m]⟩, .int .i64 (n : Int)] w (HhsPost w (isNodeT s ⟨#[m]⟩ n) (pcs (insideT s))) := by
  have u1 := IntWalk.i64_in (32 * (n : Int)) (by omega)
  have u2 := IntWalk.i64_in (2 + 32 * (n : Int)) (by omega)
  obtain ⟨L, hL⟩ : ∃ L : ByteArray, ⟨#[m]⟩ = L := ⟨_, rfl⟩
  have hbel := hid (Below.refl w.heap.size w)
  rw [hL]
  by_cases hz : s.size = 2 + n * 32
  · have hd : ((s.size : Int) != 2 + 32 * (n : Int)) = false := by rw [bne_eq_false_iff_eq]; omega
    obtain ⟨a, b, l, hab⟩ : ∃ a b l, s.data.toList = a :: b :: l := by
      have hl : s.data.toList.length = s.size := rfl
      cases h1 : s.data.toList with
      | nil => rw [h1] at hl; simp at hl; omega
      | cons a t => cases t with
        | nil => rw [h1] at hl; simp at hl; omega
        | cons b l => exact ⟨a, b, l, rfl⟩
    have h3 := node_three (m := m) hn hab hz
    have h1 := one_list hab
    have g1 : 1 ≤ s.size := by omega
    have g2 : 1 < s.size := by omega
    have hx0 : s.data[1]? = some b := by
      rw [← Array.getElem?_toList, hab]; rfl
    have hx1 : s[1]'g2 = b := by
      have := (Array.getElem?_eq_some_iff.1 hx0).2
      exact this
    have hbw : wrap64 (b.toNat : Int) = (b.toNat : Int) := by
      have := b.toNat_lt
      exact IntWalk.wrap64_in (b.toNat : Int) (by omega)
    clear hx0
    by_cases ha : a = m
    · by_cases hb : b.toNat = n
      · have hne : ((s.extract 0 1).toList == L.toList) = true := by rw [h1, ← hL, ha]; exact beq_self_eq_true _
        have hbn : ((b.toNat : Int) != (n : Int)) = false := by rw [bne_eq_false_iff_eq]; omega
        have hres := hid (show isNodeT s L n = true from by rw [← hL, h3]; simp [hb, ha])
        obtain ⟨hpl, hps⟩ := pcs_in hm hz (by rw [h1, ha])
        obtain ⟨ps, hpp⟩ : ∃ l, pcs (insideT s) = l := ⟨_, rfl⟩
        rw [hpp] at hpl hps ⊢
        have hp32 := hid (show ∀ p ∈ ps, p.length = 32 from fun p hp => by
          obtain ⟨j, hj, e⟩ := List.mem_iff_getElem.1 hp
          have := hps j (by omega)
          rw [List.getElem?_eq_getElem hj] at this
          rw [← e, Option.some.inj this, List.length_take, List.length_drop]
          have : s.data.toList.length = s.size := rfl
          omega)
        have hps' := hid hps
        have hpl' := hid hpl
        have hz' := hid hz
        have hSz' := hid hS
        have hn' := hid hn
        obtain ⟨g, hg⟩ : ∃ g, w.heap.size = g := ⟨_, rfl⟩
        obtain ⟨W0, hW0⟩ : ∃ V, w.alloc (.cells #[.string s, .int .i64 2] 155) = V := ⟨_, rfl⟩
        have hb0 : Below g w W0 := by rw [← hW0, ← hg]; exact (Below.refl _ _).alloc (Nat.le_refl _) _
        have hR0 : RR W0 g s 2 := by rw [← hW0, ← hg]; exact Holds.new w _ #[.string s, .int .i64 2]
        have hb0' := hid hb0
        have hR0' := hid hR0
        have hg' := hid hg
        have hW0' := hid hW0
        obtain ⟨ih, hhi, hhz, hhs, hhb⟩ := info_parts Try.infoHashI
        have hhi' := hid hhi
        have hhz' := hid hhz
        clear h3 h1 hab ha hL hz hb hpp hps hpl hb0 hR0 hg hW0 hhi hhz hhs hhb
        go_enter Try.func59, Try.ntmps59
        go_wp2_with (first
          | ((with_reducible refine at_slot (some 34) ?_); refine wpList_run rfl (.pointer (some ⟨g, 0, none⟩)) (w.alloc (.cells #[.string s, .int .i64 2] 155)) (by rw [← hg'.out]; kernel_rfl) ?_; rw [hW0'.out])
          | fail)
        go_loopw [8, 10] (fun sx ix wr => ∃ (i : Nat) (A : Option Addr) (c : Nat), i ≤ n ∧ sx = .slice A i c ∧ ix = .int .i64 (i : Int) ∧ wr.ownsRow (g + 1) 33 32 (.slice A i c) i (hashCells (ps.take i)) ∧ RR wr g s (2 + i * 32) ∧ Below g w wr) (fun _ ix _ => n - (intOf ix).toNat)
        case atStart => exact ⟨0, none, 0, Nat.zero_le _, rfl, rfl, World.ownsRow_nil _ _ _ _, hR0'.out, hb0'.out⟩
        case round =>
          obtain ⟨i, A, c, hi, rfl, rfl, hO, hR, hB⟩ := hrel
          have hO1 := hid hO
          have hR1 := hid hR
          have hB1 := hid hB
          clear hO hR hB
          by_cases hlt : i < n
          · have hlt' : (i : Int) < (n : Int) := by omega
            have hiw := IntWalk.i64_in ((i : Int) + 1) (by have := hn'.out; omega)
            have hcall := hid (refHash_good g s (2 + i * 32) (by have := hz'.out; omega) hSz'.out wr hR1.out)
            obtain ⟨h, hh⟩ : ∃ h, (s.data.toList.drop (2 + i * 32)).take 32 = h := ⟨_, rfl⟩
            have hpi := hps'.out i hlt
            rw [hh] at hpi
            rw [hh] at hcall
            have hpi' := hid hpi
            have hh32 := hid (hp32.out h (List.mem_of_getElem? hpi))
            have hC := hid (hash_cells h hh32.out)
            have hCs := hid (show (Try.prog.info? 33).map (·.size) = some (byteCells h).length from by have := hC.out.size; rwa [List.size_toArray] at this)
            have hsz := hid (show z32.size = (byteCells h).toArray.size from by rw [show (byteCells h).toArray.size = 32 from by rw [List.size_toArray, hC.out.len]]; rfl)
            have hone := hid (show (byteCells h).toArray.all (·.oneCell') = true from hC.out.one)
            have hCz := hid (show (Try.prog.info? 33).map (·.size) = some (byteCells h).toArray.size from by rw [List.size_toArray]; exact hCs.out)
            clear hpi hh
            go_wp2_with fail
            refine hcall.out.mono ?_
            rintro e W2 ⟨rfl, hR2, hgr2⟩
            have hO2 := hid (rown_block hO1.out fun q hq => hgr2.block q (hO1.out.lt q hq).2 (fun e => by have := (hO1.out.lt q hq).1; cases e; omega))
            have hB2 := hid (show Below g w W2 from hB1.out.trans ⟨hgr2.os, hgr2.tape, hgr2.output, hgr2.size, fun q hq => hgr2.block q (Nat.lt_trans hq hR1.out.lt) (fun e => by cases e; omega)⟩)
            obtain ⟨q, hq⟩ : ∃ q, W2.heap.size = q := ⟨_, rfl⟩
            obtain ⟨W3, hW3⟩ : ∃ V, W2.alloc (.cells z32 33) = V := ⟨_, rfl⟩
            obtain ⟨W4, hW4⟩ : ∃ V, W3.setRow q (byteCells h).toArray = V := ⟨_, rfl⟩
            have hq3 : W3.heap[q]? = some (.cells z32 33 (0, 0)) := by rw [← hW3]; exact heap_at _ _ _ hq.symm
            have hq4 : W4.heap[q]? = some (.cells (byteCells h).toArray 33 (0, 0)) := by rw [← hW4]; exact setRow_heap W3 _ z32 _ _ _ hq3
            have hb4 : Below W2.heap.size W2 W4 := by
              rw [← hW4]
              have h3 : Below W2.heap.size W2 W3 := by rw [← hW3]; exact (Below.refl _ _).alloc (Nat.le_refl _) _
              exact ⟨h3.os, h3.tape, h3.output, by have := h3.size; simpa using this, fun k hk => (setRow_other W3 _ _ _ (by omega)).trans (h3.block k hk)⟩
            have hR4 := hid (show RR W4 g s (2 + i * 32 + 32) from Holds.below hR2 hb4 (Holds.lt hR2))
            have hO4 := hid (rown_onF hO2.out hb4)
            have hB4 := hid (hB2.out.trans (hb4.mono (Nat.le_of_lt (Holds.lt hR2))))
            have hg4 := hid (show g + 1 ≤ W4.heap.size from Holds.lt hR4.out)
            have hq3' := hid hq3
            have hq4' := hid hq4
            have hW3' := hid hW3
            have hW4' := hid hW4
            have hq' := hid hq
            clear hq3 hq4 hW3 hW4 hq hb4 hR2 hgr2
            go_wp2_with (first
              | ((with_reducible refine at_slot (some 11) ?_); refine wpList_alloc_row rfl 33 rfl ih _ hhi'.out hhz'.out z32 rfl ?_; rw [hW3'.out, hq'.out])
              | ((with_reducible refine at_slot none ?_); refine wpList_store_row rfl 33 (.tmp 11) (.tmp 43) rfl q (byteCells h).toArray rfl rfl 33 z32 hq3'.out hCz.out hsz.out hone.out ?_; rw [hW4'.out])
              | ((with_reducible refine at_slot (some 46) ?_); refine wpList_load_row rfl 33 (.tmp 11) rfl q rfl 33 (byteCells h).toArray (0, 0) _ hq4'.out Try.underlying33 rfl hCz.out ?_)
              | ((with_reducible refine at_slot (some 47) ?_); refine wpList_pushHashG rfl rfl (.tmp 46) (.tmp 45) (.tmp 47) rfl rfl (g + 1) A i c (hashCells (ps.take i)) h hh32.out rfl rfl rfl (by have := hn'.out; omega) (by exact hO4.out) (by exact hg4.out) _ rfl ?_; intro A2 c2 W5 hrow hgr hfr; have hrow' := hid hrow; have hgr' := hid hgr; clear hrow hgr hfr)
              | fail)
            have hlo := hid (fun k (e : (Value.slice A i c).ownBlock = some k) => (hO4.out.lt k e).1)
            have hR5 := hid (show RR W5 g s (2 + (i + 1) * 32) from by
              have : RR W5 g s (2 + i * 32 + 32) := (hgr'.out.block g hg4.out (fun e => by have := hlo.out g e.symm; omega)).trans hR4.out
              rw [show 2 + (i + 1) * 32 = 2 + i * 32 + 32 from by omega]
              exact this)
            have hB5 := hid (show Below g w W5 from hB4.out.trans ⟨hgr'.out.os, hgr'.out.tape, hgr'.out.output, hgr'.out.size, fun k hk => hgr'.out.block k (Nat.lt_of_lt_of_le hk (by have := hg4.out; omega)) (fun e => by have := hlo.out k e.symm; omega)⟩)
            have htk : ps.take (i + 1) = ps.take i ++ [h] := by rw [List.take_add_one, hpi'.out]; rfl
            have hO5 := hid (show W5.ownsRow (g + 1) 33 32 (.slice A2 (i + 1) c2) (i + 1) (hashCells (ps.take (i + 1))) from by rw [htk, hashCells_snoc]; exact hrow'.out)
            go_roundw
            case rel => exact ⟨i + 1, A2, c2, by omega, rfl, by go_num, hO5.out, hR5.out, hB5.out⟩
            case measure => simp [intOf]; omega
          · have hlt' : ¬ (i : Int) < (n : Int) := by omega
            obtain rfl : i = n := by omega
            have hO9 := hid (show wr.ownsRow (w.heap.size + 1) 33 32 (.slice A i c) i (hashCells ps) from by rw [hg'.out]; have := hO1.out; rwa [List.take_of_length_le (by have := hpl'.out; omega)] at this)
            go_wp2_with fail
            go_ret2
            rw [hres.out]
            exact ⟨by rw [hg'.out]; exact hB1.out, _, _, _, rfl, hO9.out, hpl'.out, hp32.out⟩
      · have hne : ((s.extract 0 1).toList == L.toList) = true := by rw [h1, ← hL, ha]; exact beq_self_eq_true _
        have hbn : ((b.toNat : Int) != (n : Int)) = true := by rw [bne_iff_ne]; omega
        have hres := hid (show isNodeT s L n = false from by rw [← hL, h3]; simp [hb])
        clear h3 h1 hab ha hL hz hb
        go_enter Try.func59, Try.ntmps59
        go_wp2_with fail
        go_ret2
        rw [hres.out]
        exact ⟨hbel.out, rfl⟩
    · have hne : ((s.extract 0 1).toList == L.toList) = false := by
        rw [h1, ← hL]
        exact txt_ne (fun e => ha (by injection e with e; injection e with e; injection e))
      have hres := hid (show isNodeT s L n = false from by rw [← hL, h3]; simp [ha])
      clear h3 h1 hab ha hL hz
      go_enter Try.func59, Try.ntmps59
      go_wp2_with fail
      go_ret2
      rw [hres.out]
      exact ⟨hbel.out, rfl⟩
  · have hd : ((s.size : Int) != 2 + 32 * (n : Int)) = true := by rw [bne_iff_ne]; omega
    have hres := hid (show isNodeT s L n = false from by unfold isNodeT; rw [decide_eq_false hz]; rfl)
    clear hz hL
    go_enter Try.func59, Try.ntmps59
    go_wp2_with fail
    go_ret2
    rw [hres.out]
    exact ⟨hbel.out, rfl⟩
end Go.Proofs.Ytpjfhbmegabafaa
