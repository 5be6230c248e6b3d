/- Layer 12, the reference's side: a row of nodes' hashes. -/
import Derived.Test.YtpjfhbmegabafaaLFtKq
namespace Go.Proofs.Ytpjfhbmegabafaa
open Go.RowKit
open Go.Lib (strCells strCells_length strCells_oneCell)
attribute [local irreducible] Sha.compress Sha.blocks Sha.sha Sha.pad

theorem one_cells {hs : List (List UInt8)} : ∀ u ∈ hashCells hs, u.oneCell' = true := fun u hu => by
  obtain ⟨l, hl, hu⟩ := List.mem_flatMap.1 hu
  obtain ⟨c, _, rfl⟩ := List.mem_map.1 hu
  rfl
section
variable {ops : Array Oper} {rest : List Oper} {a : Act} {w : World} {Q : Exit → Act → World → Prop}
theorem wpList_appendHs {o : Oper} (hgd : o.guard = none) (s y : Operand) (ho : o.op = .call { callee := .builtin .append, args := #[s, y], argTypes := #[62, 62] })
    (B : Nat) (A : Option Addr) (n c : Nat) (cs : List Value) (q m c' : Nat) (news : List (List UInt8)) (h32 : ∀ x ∈ news, x.length = 32) (hs : a.eval s = .slice A n c) (hy : a.eval y = .slice (some ⟨q, 0, none⟩) m c') (hm : 0 < m) (hl : news.length = m)
    (h63 : n + m ≤ 1000000) (hown : w.ownsRow B 33 32 (.slice A n c) n cs) (hrow : RowH w q news) (hB : B ≤ w.heap.size)
    (m2 : Nat) (hm2 : n + m = m2) (h : ∀ A2 c2 w', w'.ownsRow B 33 32 (.slice A2 m2 c2) m2 (cs ++ hashCells news) → w.grownBy w' (Value.slice A n c).ownBlock → Fresh w (Value.slice A n c).ownBlock (Value.slice A2 m2 c2).ownBlock → wpList Try.prog ops Q rest (a.put o.dst (.slice A2 m2 c2)) w') :
    wpList Try.prog ops Q (o :: rest) a w := by
  subst hm2
  obtain ⟨i0, hi0, hz0, hz1, hz2⟩ := info_parts Try.infoHashD
  have hcl : ∀ j u, (hashCells news)[j]? = some u → w.cell? ((⟨q, 0, none⟩ : Addr).add j) = some u := fun j u hj => by
    obtain ⟨cs, t, f, h3, h4⟩ := hrow
    rw [show (⟨q, 0, none⟩ : Addr).add j = ⟨q, j, none⟩ from by unfold Addr.add; split <;> simp_all, cell_of_row w q _ cs t f h3]
    exact h4 _ _ hj
  rw [← hz1] at hown
  refine wpList_plain hgd fun K hK => ?_
  obtain ⟨A2, c2, w', hr, hrow2, hg, hf⟩ := run_append_fresh (P := Try.prog) w B 62 o.type 33 i0 _ Try.underlying62 hi0 hz0 (by rw [hz1]; rfl) (by rw [hz1]; decide) A n c cs hown ⟨q, 0, none⟩ m c' (hashCells news) hm (by rw [hz1, hashCells_length news h32, hl, Nat.mul_comm]) hcl one_cells (by omega) (by rw [hz2]; omega) hB
  rw [hz1] at hrow2
  unfold Oper.wp execOp
  simp only [ho, resolve, invoke, builtin, Sem.run_bind, Sem.run_pure, Result.andThen_ok, List.map_toArray, List.map_cons, List.map_nil, hs, hy, hr]
  exact hK _ _ (h A2 c2 w' hrow2 hg hf)
end
def mayN (m : UInt8) (all : Nat) (i : Nat) (x : ByteArray) : Bool := isNodeT x ⟨#[m]⟩ (min 8 (all - i * 8))
/-- What rows answers. -/
def RowsPost (w : World) (T : Option (List ByteArray × List (List UInt8))) (e : Ending) (w' : World) : Prop :=
  Below w.heap.size w w' ∧ match T with
  | none => e = .returned (.tuple #[.slice none 0 0, .slice none 0 0, .bool false])
  | some (acc, want) => ∃ A n c A2 n2 c2, e = .returned (.tuple #[.slice A n c, .slice A2 n2 c2, .bool true]) ∧ w'.ownsRow w.heap.size 33 32 (.slice A n c) n (hashCells (pcsL acc)) ∧ w'.ownsRow w.heap.size 33 32 (.slice A2 n2 c2) n2 (hashCells (unlikeH want)) ∧
    (∀ p ∈ pcsL acc, p.length = 32) ∧ (∀ p ∈ unlikeH want, p.length = 32) ∧ ∀ q, (Value.slice A n c).ownBlock = some q → (Value.slice A2 n2 c2).ownBlock ≠ some q
theorem pcsL_snoc (acc : List ByteArray) (x : ByteArray) : pcsL (acc ++ [x]) = pcsL acc ++ pcs x := by
  unfold pcsL
  rw [List.flatMap_append]
  simp
theorem unlikeH_snoc (want : List (List UInt8)) (h : List UInt8) : unlikeH (want ++ [h]) = addH (unlikeH want) h := by
  unfold unlikeH
  rw [List.foldl_append]
  rfl
theorem addH_mem {xs : List (List UInt8)} {x y : List UInt8} (h : y ∈ addH xs x) : y ∈ xs ∨ y = x := by
  unfold addH at h
  split at h
  · exact .inl h
  · rcases List.mem_append.1 h with h | h
    · exact .inl h
    · exact .inr (List.mem_singleton.1 h)
/-- What rows holds in its rounds. -/
structure RwAt (w W : World) (A : Option Addr) (k c : Nat) (A2 : Option Addr) (k2 c2 : Nat) (acc : List ByteArray) (want : List (List UInt8)) (i : Nat) : Prop where
  row : W.ownsRow w.heap.size 33 32 (.slice A k c) k (hashCells (pcsL acc))
  wts : W.ownsRow w.heap.size 33 32 (.slice A2 k2 c2) k2 (hashCells (unlikeH want))
  r32 : ∀ p ∈ pcsL acc, p.length = 32
  w32 : ∀ p ∈ unlikeH want, p.length = 32
  apart : ∀ q, (Value.slice A k c).ownBlock = some q → (Value.slice A2 k2 c2).ownBlock ≠ some q
  bel : Below w.heap.size w W
  rlen : k ≤ i * 8
  wlen : k2 ≤ i
section
variable {w W W' : World} {A A2 : Option Addr} {k c k2 c2 i : Nat} {acc : List ByteArray} {wn : List (List UInt8)}
theorem RwAt.on (h : RwAt w W A k c A2 k2 c2 acc wn i) (hb : Below W.heap.size W W') : RwAt w W' A k c A2 k2 c2 acc wn i :=
  ⟨rown_onF h.row hb, rown_onF h.wts hb, h.r32, h.w32, h.apart, h.bel.trans (hb.mono h.bel.size), h.rlen, h.wlen⟩
theorem below_own {B : Nat} {row : Option Nat} (h : Below B w W) (hs : B ≤ W.heap.size) (hr : ∀ q, row = some q → B ≤ q) (hg : W.grownBy W' row) : Below B w W' :=
  h.trans ⟨hg.os, hg.tape, hg.output, hg.size, fun q hq => hg.block q (Nat.lt_of_lt_of_le hq hs) (fun e => by have := hr q e.symm; omega)⟩
theorem RwAt.want {A' : Option Addr} {k' c' : Nat} {x : List UInt8} (h : RwAt w W A k c A2 k2 c2 acc wn i) (hx : x.length = 32) (hr : W'.ownsRow w.heap.size 33 32 (.slice A' k' c') k' (hashCells (addH (unlikeH wn) x)))
    (hg : W.grownBy W' (Value.slice A2 k2 c2).ownBlock) (hf : Fresh W (Value.slice A2 k2 c2).ownBlock (Value.slice A' k' c').ownBlock) : RwAt w W' A k c A' k' c' acc (wn ++ [x]) (i + 1) := by
  have h32 : ∀ p ∈ addH (unlikeH wn) x, p.length = 32 := fun p hp => by
    rcases addH_mem hp with hp | rfl
    · exact h.w32 p hp
    · exact hx
  refine ⟨rown_block h.row fun q hq => hg.block q (h.row.lt q hq).2 (fun e => h.apart q hq e.symm), by rw [unlikeH_snoc]; exact hr, h.r32, by rw [unlikeH_snoc]; exact h32, fun q hq e => ?_, below_own h.bel h.bel.size (fun q e => (h.wts.lt q e).1) hg, by have := h.rlen; omega, ?_⟩
  · rcases hf with e2 | ⟨j, e2, hj⟩
    · exact h.apart q hq (e2.symm.trans e)
    · have := (h.row.lt q hq).2
      have : j = q := Option.some.inj (e2.symm.trans e)
      omega
  · have h1 := (own_hashs hr h32).len
    have h2 := (own_hashs h.wts h.w32).len
    have h3 := addH_len (unlikeH wn) x
    have := h.wlen
    omega
theorem RwAt.more {A' : Option Addr} {c' m : Nat} {x : ByteArray} (h : RwAt w W A k c A2 k2 c2 acc wn i) (hx : ∀ p ∈ pcs x, p.length = 32) (hm : m ≤ 8) (hr : W'.ownsRow w.heap.size 33 32 (.slice A' (k + m) c') (k + m) (hashCells (pcsL acc) ++ hashCells (pcs x)))
    (hg : W.grownBy W' (Value.slice A k c).ownBlock) (hf : Fresh W (Value.slice A k c).ownBlock (Value.slice A' (k + m) c').ownBlock) : RwAt w W' A' (k + m) c' A2 k2 c2 (acc ++ [x]) wn (i + 1) := by
  have e : hashCells (pcsL acc) ++ hashCells (pcs x) = hashCells (pcsL (acc ++ [x])) := by rw [pcsL_snoc]; unfold hashCells; rw [List.flatMap_append]
  rw [e] at hr
  refine ⟨hr, rown_block h.wts fun q hq => hg.block q (h.wts.lt q hq).2 (fun e => h.apart q e.symm hq), ?_, h.w32, fun q hq e => ?_, below_own h.bel h.bel.size (fun q e => (h.row.lt q e).1) hg, by have := h.rlen; omega, by have := h.wlen; omega⟩
  · rw [pcsL_snoc]
    intro p hp
    rcases List.mem_append.1 hp with hp | hp
    · exact h.r32 p hp
    · exact hx p hp
  · rcases hf with e2 | ⟨j, e2, hj⟩
    · exact h.apart q (e2.symm.trans hq) e
    · have := (h.wts.lt q e).2
      have : j = q := Option.some.inj (e2.symm.trans hq)
      omega
end
set_option maxRecDepth 100000 in
set_option maxHeartbeats 2000000 in
theorem rowsR_any (B r : Nat) (m : Obs) (hsm : ∀ k x, obGet m k = some x → x.size ≤ 65536) (A0 : Option Addr) (b n c0 : Nat) (hs : List (List UInt8)) (h32 : ∀ x ∈ hs, x.length = 32) (hlen : hs.length = n) (hA : 0 < n → A0 = some ⟨b, 0, none⟩) (l : UInt8) (hl : l ≠ 66) (all : Nat) (hall : ∀ i, i < n → i * 8 < all) (hn : n ≤ 1000) (ha : all ≤ 100000) (w : World) (hK : KnAt w B r m) (hrow : 0 < n → RowH w b hs) :
    Calls Try.prog 60 #[.pointer (some ⟨r, 0, none⟩), .slice A0 n c0, .string ⟨#[l]⟩, .int .i64 (all : Int)] w (RowsPost w (lvl (obGet m) (mayN l all) 0 hs [] [])) := by
  have hsm' := hid hsm
  have h32' := hid h32
  have hlen' := hid hlen
  have hA' := hid hA
  have hall' := hid hall
  have hn' := hid hn
  have ha' := hid ha
  have hK' := hid hK
  have hrow' := hid hrow
  obtain ⟨L, hL⟩ : ∃ L : ByteArray, ⟨#[l]⟩ = L := ⟨_, rfl⟩
  have hL' := hid hL
  obtain ⟨T, hT⟩ : ∃ T, lvl (obGet m) (mayN l all) 0 hs [] [] = T := ⟨_, rfl⟩
  have hT' := hid hT
  rw [hL, hT]
  have hbel := hid (Below.refl w.heap.size w)
  clear hsm h32 hlen hA hall hn ha hK hrow hL hT
  go_enter Try.func60, Try.ntmps60
  go_wp2_with fail
  go_loopw [11, 12, 13] (fun sx tx ix wr => ∃ (i : Nat) (A : Option Addr) (k c : Nat) (A2 : Option Addr) (k2 c2 : Nat) (acc : List ByteArray) (want : List (List UInt8)), i ≤ n ∧ sx = .slice A k c ∧ tx = .slice A2 k2 c2 ∧ ix = .int .i64 (i : Int) ∧ RwAt w wr A k c A2 k2 c2 acc want i ∧ Hid (lvl (obGet m) (mayN l all) i (hs.drop i) acc want = T)) (fun _ _ ix _ => n - (intOf ix).toNat)
  case atStart => exact ⟨0, none, 0, 0, none, 0, 0, [], [], Nat.zero_le _, rfl, rfl, rfl, ⟨World.ownsRow_nil _ _ _ _, World.ownsRow_nil _ _ _ _, fun p h => (List.not_mem_nil h).elim, fun p h => (List.not_mem_nil h).elim, (fun _ h => nomatch h), hbel.out, Nat.zero_le _, Nat.zero_le _⟩, hid hT'.out⟩
  case round =>
    obtain ⟨i, A, k, c, A2, k2, c2, acc, want, hi, rfl, rfl, rfl, hR, hTi⟩ := hrel
    have hR1 := hid hR
    clear hR
    by_cases hlt : i < n
    · have hlt' : (i : Int) < (n : Int) := by omega
      have s3 : (0 : Int) ≤ (i : Int) := by omega
      have hiw := IntWalk.i64_in ((i : Int) + 1) (by have := hn'.out; omega)
      obtain rfl := hA'.out (by omega)
      obtain ⟨h, hh⟩ : ∃ h, hs[i]? = some h := ⟨_, List.getElem?_eq_getElem (by rw [hlen'.out]; exact hlt)⟩
      have hh32 := hid (h32'.out h (List.mem_of_getElem? hh))
      have hdrop : hs.drop i = h :: hs.drop (i + 1) := by
        obtain ⟨hj, e⟩ := List.getElem?_eq_some_iff.1 hh
        rw [List.drop_eq_getElem_cons hj, e]
      have hrg := hid (fun (V : World) (hV : Below w.heap.size w V) => ((hrow'.out (by omega)).on (hV.block b ((hrow'.out (by omega)).lt))).range h32'.out hh)
      have hCs := hid (show (Try.prog.info? 33).map (·.size) = some (byteCells h).length from by have := (hash_cells h hh32.out).size; rwa [List.size_toArray] at this)
      have hTi' := hid (show lvl (obGet m) (mayN l all) i (h :: hs.drop (i + 1)) acc want = T from by rw [← hdrop]; exact hTi.out)
      clear hh hdrop hTi
      have hw1 := IntWalk.i64_in ((i : Int) * 8) (by have := hn'.out; omega)
      have hw2 := IntWalk.i64_in ((all : Int) - (i : Int) * 8) (by have := hn'.out; have := ha'.out; omega)
      go_wp2_with (first
        | ((with_reducible refine at_slot (some 29) ?_); refine wpList_load_mid rfl 33 (.tmp 28) rfl b (i * 32) (by go_simp) (byteCells h) _ (by exact hrg.out _ hR1.out.bel) Try.underlying33 rfl (by exact hCs.out) ?_)
        | fail)
      have hcall := knGet_any B r m h hh32.out wr (hK'.out.on hR1.out.bel)
      cases hg : obGet m h with
      | none =>
        rw [hg] at hcall
        replace hcall : Calls Try.prog 58 #[.pointer (some ⟨r, 0, none⟩), .agg (byteCells h).toArray] wr fun e w' => e = .returned (.tuple #[.string ⟨#[]⟩, .bool false]) ∧ Below wr.heap.size wr w' := hcall
        refine hcall.mono ?_
        rintro e W2 ⟨rfl, hb2⟩
        have hR2 := hid (hR1.out.on hb2)
        clear hb2 hR1
        have hT2 := hid (show lvl (obGet m) (mayN l all) (i + 1) (hs.drop (i + 1)) acc (want ++ [h]) = T from by rw [← lvl_want hg]; exact hTi'.out)
        clear hTi' hg
        have hB2 := hid (hR2.out.bel.size)
        go_wp2_with (first
          | ((with_reducible refine at_slot (some 39) ?_); refine wpList_load_mid rfl 33 (.tmp 38) rfl b (i * 32) (by go_simp) (byteCells h) _ (by exact hrg.out _ hR2.out.bel) Try.underlying33 rfl (by exact hCs.out) ?_)
          | fail)
        refine (onceHash_any w.heap.size A2 k2 c2 (unlikeH want) h hh32.out hR2.out.w32 W2 hR2.out.wts hB2.out (by have := hR2.out.wlen; have := hn'.out; omega)).mono ?_
        rintro e W3 ⟨A3, k3, c3, rfl, hr3, hg3, hf3⟩
        have hR3 := hid (hR2.out.want hh32.out hr3 hg3 hf3)
        clear hr3 hg3 hf3
        go_wp2_with fail
        go_roundw
        case rel => exact ⟨i + 1, A, k, c, A3, k3, c3, acc, want ++ [h], by omega, rfl, rfl, by go_num, hR3.out, hT2⟩
        case measure => simp [intOf]; omega
      | some x =>
        rw [hg] at hcall
        replace hcall : Calls Try.prog 58 #[.pointer (some ⟨r, 0, none⟩), .agg (byteCells h).toArray] wr fun e w' => e = .returned (.tuple #[.string x, .bool true]) ∧ Below wr.heap.size wr w' := hcall
        refine hcall.mono ?_
        rintro e W2 ⟨rfl, hb2⟩
        have hR2 := hid (hR1.out.on hb2)
        clear hb2 hR1
        have hx9 := hid (hsm'.out h x hg)
        obtain ⟨y, hy⟩ : ∃ y, mayN l all i x = y := ⟨_, rfl⟩
        have hmin : min 8 ((all : Int) - (i : Int) * 8) = ((min 8 (all - i * 8) : Nat) : Int) := by have := hall'.out i hlt; omega
        have hmn : min 8 (all - i * 8) ≤ 8 := Nat.min_le_left _ _
        have hm0 : 0 < min 8 (all - i * 8) := by have := hall'.out i hlt; omega
        obtain ⟨mn, hmn2⟩ : ∃ k, min 8 (all - i * 8) = k := ⟨_, rfl⟩
        have hy2 : isNodeT x ⟨#[l]⟩ mn = y := by rw [← hmn2]; exact hy
        rw [hmn2] at hmin hmn hm0
        have hmn8 := hid hmn
        have hm00 := hid hm0
        have hlv := hid (fun (h1 : y = true) => show lvl (obGet m) (mayN l all) (i + 1) (hs.drop (i + 1)) (acc ++ [insideT x]) want = T from by rw [← lvl_in hg (hy.trans h1)]; exact hTi'.out)
        have hlo := hid (fun (h1 : y = false) => show T = none from by rw [← hTi'.out]; exact lvl_bad hg (hy.trans h1))
        have hnok := hid (fun (h1 : y = true) => node_ok hl (hy2.trans h1))
        have hy' := hid hy2
        clear hg hy hy2 hmn hm0 hTi' hmn2
        go_wp2_with fail
        have hcl := hashesR_any x l mn hl (by have := hmn8.out; omega) W2 (by have := hx9.out; omega)
        rw [hL'.out] at hcl
        refine hcl.mono ?_
        rintro e W3 ⟨hb3, hm3⟩
        have hR3 := hid (hR2.out.on hb3)
        have hb3' := hid hb3
        rw [← hL'.out, hy'.out] at hm3
        clear hcl hb3 hR2
        cases y with
        | false =>
          obtain rfl := hm3
          have hT3 := hid (hlo.out rfl)
          go_wp2_with fail
          refine bodyPost_ret (results_tmp3 rfl _ _ _) rfl ?_
          rw [hT3.out]
          exact ⟨hR3.out.bel, rfl⟩
        | true =>
          obtain ⟨A5, n5, c5, rfl, hr5, hn5, h325⟩ := hm3
          have hlv' := hid (hlv.out rfl)
          have hn5' : n5 = mn := by rw [← hn5, pcs_len]; unfold cutN; rw [(hnok.out rfl).2]; omega
          subst hn5'
          obtain ⟨q, hA5, hq5, -⟩ := own_rowH hr5
          obtain rfl := hA5 hm00.out
          have hq5' := hid (hq5 hm00.out)
          have hn5' := hid hn5
          have h325' := hid h325
          have hB3 := hid (hR3.out.bel.size)
          clear hlv hlo hnok hn5 h325 hr5 hA5 hq5
          go_wp2_with (first
            | ((with_reducible refine at_slot (some 56) ?_); refine wpList_appendHs rfl (.tmp 54) (.tmp 55) rfl w.heap.size A k c (hashCells (pcsL acc)) q n5 c5 (pcs (insideT x)) h325'.out rfl rfl hm00.out hn5'.out (by have := hR3.out.rlen; have := hn'.out; have := hmn8.out; omega) hR3.out.row hq5'.out hB3.out _ rfl ?_; intro A7 c7 W4 hr7 hg7 hf7; have hR4 := hid (hR3.out.more h325'.out hmn8.out hr7 hg7 hf7); clear hr7 hg7 hf7)
            | fail)
          go_roundw
          case rel => exact ⟨i + 1, A7, k + n5, c7, A2, k2, c2, acc ++ [insideT x], want, by omega, rfl, rfl, by go_num, hR4.out, hlv'⟩
          case measure => simp [intOf]; omega
    · have hlt' : ¬ (i : Int) < (n : Int) := by omega
      obtain rfl : i = n := by omega
      have hTe := hid (show T = some (acc, want) from by
        have := hTi.out
        rw [List.drop_of_length_le (by have := hlen'.out; omega), lvl] at this
        exact this.symm)
      clear hTi
      go_wp2_with fail
      refine bodyPost_ret (results_tmp3 rfl _ _ _) rfl ?_
      rw [hTe.out]
      exact ⟨hR1.out.bel, A, k, c, A2, k2, c2, rfl, hR1.out.row, hR1.out.wts, hR1.out.r32, hR1.out.w32, hR1.out.apart⟩
end Go.Proofs.Ytpjfhbmegabafaa
