/- Layer 11, the reference's side: an object's hash, a store in memory; NewStore, Len.
   Layer 11, the reference's side: a store's Get.
   Layer 11, the reference's side: a store's Put.
   Layer 11, the reference's side: a store's Add. -/
import Derived.Test.YtpjfhbmegabafaaObP
import Derived.Test.YtpjfhbmegabafaaRefTagX
import Derived.Test.YtpjfhbmegabafaaObPr
import Derived.Test.YtpjfhbmegabafaaHashE
namespace Go.Proofs.Ytpjfhbmegabafaa
open Go.RowKit
open Go.Lib (strCells strCells_length strCells_oneCell)
attribute [local irreducible] Sha.compress Sha.blocks Sha.sha Sha.pad

/-- An object's hash, as the document's Object tells it. -/
def objAns (d : ByteArray) : List UInt8 := if d.size ≤ 65536 then obHash d else List.replicate 32 0
theorem objAns_len (d : ByteArray) : (objAns d).length = 32 := by
  unfold objAns
  split
  · exact obHash_len d
  · rfl
theorem z32_eqR : z32 = (byteCells (List.replicate 32 0)).toArray := by kernel_rfl
theorem rTag1_any (d : ByteArray) (hd : d.size ≤ 140737488351232) (n : Nat) (w : World) :
    Calls Try.prog 38 #[.int .i64 0, .slice (some ⟨w.heap.size, 0, none⟩) 1 n] (w.alloc (.cells #[.string d] 9)) fun e w' => ∃ x : Int, e = .returned (.tuple #[.agg (byteCells (objAns d)).toArray, .int .i64 x]) ∧ Below w.heap.size w w' := by
  have hX := Texts.new w [d] #[.string d] rfl 1 rfl 9
  have hz : ∀ s ∈ [d], s.size ≤ 140737488351232 := fun s h => by rw [List.mem_singleton.1 h]; exact hd
  refine (refTag_any 0 _ 1 n _ _ hX (by decide) hz).mono ?_
  rintro e w' ⟨rfl, hb⟩
  have hb0 : Below w.heap.size w (w.alloc (.cells #[.string d] 9)) := (Below.refl _ _).alloc (Nat.le_refl _) _
  refine ⟨(tagAns 0 [d]).2, ?_, hb0.trans (hb.mono hb0.size)⟩
  have e : (tagAns 0 [d]).1 = .agg (byteCells (objAns d)).toArray := by
    unfold tagAns objAns
    have hm : tagMay 0 [d] = decide (d.size ≤ 65536) := by
      unfold tagMay
      simp [totS]
    rw [hm]
    by_cases h : d.size ≤ 65536
    · rw [if_pos h, decide_eq_true h, if_pos rfl]; rfl
    · rw [if_neg h, decide_eq_false h, if_neg (by decide), z32_eqR]
  rw [e]
set_option maxRecDepth 100000 in
set_option maxHeartbeats 1000000 in
theorem rObject_any (d : ByteArray) (hd : d.size ≤ 140737488351232) (w : World) : Calls Try.prog 17 #[.string d] w fun e w' => e = .returned (.agg (byteCells (objAns d)).toArray) ∧ Below w.heap.size w w' := by
  have hT := hid (fun n W => rTag1_any d hd n W)
  obtain ⟨l, hl⟩ : ∃ l, objAns d = l := ⟨_, rfl⟩
  have l32 : l.length = 32 := by rw [← hl]; exact objAns_len d
  rw [hl] at hT ⊢
  have hC := hid (hash_cells l l32)
  have hC2 := hid (show (Try.prog.info? 33).map (·.size) = some (byteCells l).length from by have := hC.out.size; rwa [List.size_toArray] at this)
  obtain ⟨W0, hW0⟩ : ∃ W0, w.alloc (.cells z32 33) = W0 := ⟨_, rfl⟩
  have hZ0 := hid (show Holds W0 w.heap.size 33 z32.toList from by rw [← hW0]; exact Holds.new _ _ _)
  have hB0 := hid (show Below w.heap.size w W0 from by rw [← hW0]; exact (Below.refl _ _).alloc (Nat.le_refl _) _)
  have hW0' := hid hW0
  clear hW0 hl l32 hd
  go_enter Try.func17, Try.ntmps17
  go_wp2_with (first
    | ((with_reducible refine at_slot (some 2) ?_); refine wpList_run rfl (.pointer (some ⟨w.heap.size, 0, none⟩)) (w.alloc (.cells z32 33)) (by kernel_rfl) ?_; rw [hW0'.out])
    | fail)
  refine (hT.out _ W0).mono ?_
  rintro e W1 ⟨x, rfl, hb⟩
  have hZ1 := hid (hZ0.out.below hb hZ0.out.lt)
  have hB1 := hid (below_up hb hB0.out)
  clear hb hZ0 hB0
  try (rename_i hKK; refine hKK _ _ ?_; clear hKK)
  go_wp2_with (first
    | ((with_reducible refine at_slot (some 3) ?_); refine wpList_run rfl (.pointer (some ⟨W1.heap.size, 0, none⟩)) (W1.alloc (.cells z32 33)) (by kernel_rfl) ?_)
    | ((with_reducible refine at_slot none ?_); refine wpList_store_mid rfl 33 (.tmp 3) (.tmp 9) rfl W1.heap.size 0 (byteCells l).toArray rfl rfl (by exact hC.out.there W1) (by exact hC.out.size) (by exact hC.out.one) ?_; generalize hW : World.setCells _ _ _ _ = W2; obtain ⟨hN, hb⟩ := hC.out.new hW; have hZ2 := hid (hZ1.out.below hb hZ1.out.lt); have hB2 := hid (below_up hb hB1.out); have hX2 := hid hN; clear hb hZ1 hB1 hN; clear hW)
    | ((with_reducible refine at_slot (some 11) ?_); refine wpList_load_mid rfl 33 (.tmp 3) rfl W1.heap.size 0 rfl (byteCells l) _ (by exact h_all hX2.out) Try.underlying33 rfl (by exact hC2.out) ?_)
    | ((with_reducible refine at_slot none ?_); refine wpList_store_mid rfl 33 (.tmp 2) (.tmp 11) rfl w.heap.size 0 (byteCells l).toArray rfl rfl (by exact hZ2.out.there 0 _ (by rw [List.size_toArray, hC.out.len]; decide)) (by exact hC.out.size) (by exact hC.out.one) ?_; generalize hW9 : World.setCells _ _ _ _ = W9; have hZ9 := hid (Holds.over hZ2.out (by rw [hC.out.len]; rfl) hW9); have hB9 := hid (below_put hB2.out (Nat.le_refl _) hW9); clear hW9)
    | fail)
  exact bodyPost_ret (results_cell_row rfl _ _ w.heap.size 33 _ (0, 0) _ rfl hZ9.out Try.underlying33 rfl (by exact hC.out.size)) rfl ⟨rfl, hB9.out⟩

/-- The cells of a row of objects. -/
def rowOb (m : Obs) : List Value := m.flatMap obCells
theorem rowOb_len {m : Obs} (h : ∀ p ∈ m, p.1.length = 32) : (rowOb m).length = m.length * 33 := by
  induction m with
  | nil => rfl
  | cons p m ih =>
    have e : (obCells p).length = 33 := by unfold obCells; rw [List.length_append, byteCells, List.length_map, h p (List.mem_cons_self ..)]; rfl
    show (obCells p ++ rowOb m).length = _
    rw [List.length_append, ih (fun q hq => h q (List.mem_cons_of_mem _ hq)), e, List.length_cons]
    omega
theorem rowOb_at : ∀ {m : Obs} {k : Nat} {p : List UInt8 × ByteArray} {j : Nat} {v : Value}, (∀ p ∈ m, p.1.length = 32) → m[k]? = some p → (obCells p)[j]? = some v → (rowOb m)[k * 33 + j]? = some v
  | [], _, _, _, _, _, hk, _ => by cases hk
  | q :: m, 0, p, j, v, _, hk, hj => by
    have e : q = p := by simpa using hk
    subst e
    show (obCells q ++ rowOb m)[0 * 33 + j]? = _
    have hlt : j < (obCells q).length := (List.getElem?_eq_some_iff.1 hj).1
    rw [Nat.zero_mul, Nat.zero_add, List.getElem?_append_left hlt]
    exact hj
  | q :: m, k + 1, p, j, v, h, hk, hj => by
    have e : (obCells q).length = 33 := by unfold obCells; rw [List.length_append, byteCells, List.length_map, h q (List.mem_cons_self ..)]; rfl
    show (obCells q ++ rowOb m)[(k + 1) * 33 + j]? = _
    rw [List.getElem?_append_right (by omega), e, show (k + 1) * 33 + j - 33 = k * 33 + j from by omega]
    exact rowOb_at (fun p hp => h p (List.mem_cons_of_mem _ hp)) (by simpa using hk) hj
theorem rowOb_snoc (m : Obs) (p : List UInt8 × ByteArray) : rowOb (m ++ [p]) = rowOb m ++ obCells p := by simp [rowOb]

/-- The document's store in memory: its block r, its row at B or above. -/
def RStoreAt (w : World) (B r most : Nat) (m : Obs) : Prop := ∃ A c, Holds w r 82 [.int .i64 (most : Int), .slice A m.length c] ∧ w.ownsRow B 85 33 (.slice A m.length c) m.length (rowOb m) ∧ ObOk m ∧ most ≤ 1024 ∧ m.length ≤ most
theorem rown_on {w w' : World} {n0 c k sz : Nat} {A : Option Addr} {t : TypeId} {cs : List Value} (h : w.ownsRow n0 t sz (.slice A k c) k cs) (hb : Below w.heap.size w w') : w'.ownsRow n0 t sz (.slice A k c) k cs := by
  have hlt := h.lt
  obtain ⟨h1, h2 | ⟨g, cap, cur, hv, hB, hh, rest⟩⟩ := h
  · exact ⟨h1, .inl h2⟩
  · refine ⟨h1, .inr ⟨g, cap, cur, hv, hB, ?_, rest⟩⟩
    rw [hb.block g (hlt g (by rw [hv]; rfl)).2]
    exact hh
theorem RStoreAt.on {w w' : World} {B r most : Nat} {m : Obs} (h : RStoreAt w B r most m) (hb : Below w.heap.size w w') : RStoreAt w' B r most m := by
  obtain ⟨A, c, h1, h2, h3⟩ := h
  exact ⟨A, c, h1.below hb h1.lt, rown_on h2 hb, h3⟩
/-- A row of objects, at one of them. -/
theorem rown_at {w : World} {B c k : Nat} {A : Option Addr} {m : Obs} {p : List UInt8 × ByteArray} (h : w.ownsRow B 85 33 (.slice A m.length c) m.length (rowOb m)) (hl : ∀ p ∈ m, p.1.length = 32) (hk : m[k]? = some p) :
    ∃ g, A = some ⟨g, 0, none⟩ ∧ ∀ j v, (obCells p)[j]? = some v → w.cell? (((⟨g, 0, none⟩ : Addr).add (k * 33)).add j) = some v := by
  have hlt : k < m.length := (List.getElem?_eq_some_iff.1 hk).1
  have h0 := h
  obtain ⟨h1, ⟨hv, h2⟩ | ⟨g, cap, cur, hv, -⟩⟩ := h
  · omega
  · injection hv with e1 e2 e3
    subst e1
    refine ⟨g, rfl, fun j v hj => ?_⟩
    have hc := h0.cells (g := g) rfl (k * 33 + j) v (rowOb_at hl hk hj)
    have e : ((⟨g, 0, none⟩ : Addr).add (k * 33)).add j = (⟨g, 0, none⟩ : Addr).add (k * 33 + j) := by
      unfold Addr.add
      by_cases h1 : k * 33 = 0 <;> by_cases h2 : j = 0 <;> simp [h1, h2]
      all_goals omega
    rw [e]
    exact hc
/-- All that is no row of objects, but for block r, is as it was. -/
def KeepO (r : Nat) (w w' : World) : Prop := w.heap.size ≤ w'.heap.size ∧ ∀ i o, w.heap[i]? = some o → i ≠ r → (∀ cs fr, o ≠ .cells cs 85 fr) → w'.heap[i]? = some o
theorem KeepO.refl (r : Nat) (w : World) : KeepO r w w := ⟨Nat.le_refl _, fun _ _ h _ _ => h⟩
theorem KeepO.trans {r : Nat} {a b c : World} (h : KeepO r a b) (k : KeepO r b c) : KeepO r a c := ⟨Nat.le_trans h.1 k.1, fun i o hi hr ho => k.2 i o (h.2 i o hi hr ho) hr ho⟩
theorem KeepO.of {r : Nat} {w w' : World} (h : Below w.heap.size w w') : KeepO r w w' := ⟨h.size, fun i _ hi _ _ => (h.block i (Array.getElem?_eq_some_iff.1 hi).1).trans hi⟩
theorem KeepO.holds {r : Nat} {w w' : World} (h : KeepO r w w') {g : Nat} {t : TypeId} {cs : List Value} (hh : Holds w g t cs) (hr : g ≠ r) (ht : t ≠ 85) : Holds w' g t cs := h.2 g _ hh hr (fun cs fr e => by injection e with _ e2; exact ht e2)
theorem KeepO.store {r : Nat} {w w' : World} (h : KeepO r w w') {s b most : Nat} {m : Obs} (hh : StoreAt w s b most m) (hr : s ≠ r) (hb : b ≠ r) : StoreAt w' s b most m := by
  obtain ⟨h1, ⟨es, clock, h2, h3⟩, h4⟩ := hh
  exact ⟨h.holds h1 hr (by decide), ⟨es, clock, h.2 b _ h2 hb (fun cs fr e => by cases e), h3⟩, h4⟩

set_option maxRecDepth 100000 in
theorem rNew_no (most : Int) (h : ¬ (1 ≤ most ∧ most ≤ 1024)) (w : World) : Calls Try.prog 12 #[.int .i64 most] w fun e w' => e = .returned (.tuple #[.pointer none, .int .i64 1100]) ∧ w' = w := by
  by_cases h1 : most < 1
  · go_enter Try.func12, Try.ntmps12
    go_wp2
    go_ret2
    exact ⟨rfl, rfl⟩
  · have h2 : 1024 < most := by omega
    go_enter Try.func12, Try.ntmps12
    go_wp2
    go_ret2
    exact ⟨rfl, rfl⟩
set_option maxRecDepth 100000 in
theorem rNew_yes (most : Nat) (h1 : 1 ≤ most) (h2 : most ≤ 1024) (B : Nat) (w : World) : Calls Try.prog 12 #[.int .i64 (most : Int)] w fun e w' => e = .returned (.tuple #[.pointer (some ⟨w.heap.size, 0, none⟩), .int .i64 0]) ∧ RStoreAt w' B w.heap.size most [] ∧ Below w.heap.size w w' := by
  have h3 : ¬ (most : Int) < 1 := by omega
  have h4 : ¬ (1024 : Int) < (most : Int) := by omega
  have hH := Holds.new w 82 #[.int .i64 (most : Int), .slice none 0 0]
  have hA := hid (show RStoreAt (w.alloc (.cells #[.int .i64 (most : Int), .slice none 0 0] 82)) B w.heap.size most [] from ⟨none, 0, hH, ⟨rfl, .inl ⟨rfl, rfl⟩⟩, ObOk.nil, h2, Nat.zero_le _⟩)
  have hB := hid (show Below w.heap.size w (w.alloc (.cells #[.int .i64 (most : Int), .slice none 0 0] 82)) from (Below.refl _ _).alloc (Nat.le_refl _) _)
  clear hH
  go_enter Try.func12, Try.ntmps12
  go_wp2
  go_ret2
  exact ⟨rfl, hA.out, hB.out⟩
set_option maxRecDepth 100000 in
theorem rLen_any (B r most : Nat) (m : Obs) (w : World) (hR : RStoreAt w B r most m) : Calls Try.prog 23 #[.pointer (some ⟨r, 0, none⟩)] w fun e w' => e = .returned (.int .i64 (m.length : Int)) ∧ w' = w := by
  obtain ⟨A, c, h1, -⟩ := hR
  have c1 := h1.cO 1 _ rfl
  clear h1
  go_enter Try.func23, Try.ntmps23
  go_wp2
  go_ret
  exact ⟨rfl, rfl⟩

end Go.Proofs.Ytpjfhbmegabafaa
namespace Go.Proofs.Ytpjfhbmegabafaa
open Go.RowKit
open Go.Lib (strCells strCells_length strCells_oneCell)
attribute [local irreducible] Sha.compress Sha.blocks Sha.sha Sha.pad

theorem obGet_fst {m : Obs} {k : List UInt8} {i : Nat} {p : List UInt8 × ByteArray} (hn : ∀ j q, j < i → m[j]? = some q → q.1 ≠ k) (hi : m[i]? = some p) (hp : p.1 = k) : obGet m k = some p.2 := by
  have hs : m = m.take i ++ p :: m.drop (i + 1) := by
    have hlt := (List.getElem?_eq_some_iff.1 hi).1
    have he := (List.getElem?_eq_some_iff.1 hi).2
    rw [← he, List.getElem_cons_drop, List.take_append_drop]
  have h1 : (m.take i).find? (fun p => p.1 == k) = none := by
    rw [List.find?_eq_none]
    intro q hq e
    obtain ⟨j, hj, rfl⟩ := List.getElem_of_mem hq
    rw [List.length_take] at hj
    exact hn j _ (by omega) (by rw [List.getElem_take, List.getElem?_eq_getElem]) (eq_of_beq e)
  unfold obGet
  rw [hs, List.find?_append, h1, Option.none_or, List.find?_cons_of_pos (by rw [hp]; exact beq_self_eq_true k)]
  rfl
theorem obGet_out {m : Obs} {k : List UInt8} (hn : ∀ j q, j < m.length → m[j]? = some q → q.1 ≠ k) : obGet m k = none := by
  rw [obGet_none]
  intro p hp
  obtain ⟨j, hj, rfl⟩ := List.getElem_of_mem hp
  exact hn j _ hj (List.getElem?_eq_getElem hj)
set_option maxRecDepth 100000 in
set_option maxHeartbeats 2000000 in
theorem rGet_any (B r most : Nat) (m : Obs) (k : List UInt8) (hk : k.length = 32) (w : World) (hR : RStoreAt w B r most m) : Calls Try.prog 21 #[.pointer (some ⟨r, 0, none⟩), .agg (byteCells k).toArray] w fun e w' => e = .returned (.tuple #[.string ((obGet m k).getD ⟨#[]⟩), .int .i64 (if (obGet m k).isSome then 0 else 1101)]) ∧ Below w.heap.size w w' := by
  obtain ⟨A, c, h1, h2, hok, hm1, hm2⟩ := hR
  have hlen := hok.len
  obtain ⟨n, hn⟩ : ∃ n, m.length = n := ⟨_, rfl⟩
  obtain ⟨kc, hkc⟩ : ∃ c, byteCells k = c := ⟨_, rfl⟩
  have hKC := hid (show HashCells kc from by rw [← hkc]; exact hash_cells k hk)
  have hKC2 := hid (show (Try.prog.info? 33).map (·.size) = some kc.length from by have := hKC.out.size; rwa [List.size_toArray] at this)
  have hH := hid (show Holds w r 82 [.int .i64 (most : Int), .slice A n c] from by rw [← hn]; exact h1)
  have hOw := hid (fun (V : World) (hb : Below w.heap.size w V) (i : Nat) p (hi : m[i]? = some p) => rown_at (rown_on h2 hb) hlen hi)
  have hl32 := hid hlen
  have hk32 := hid hk
  have hkc' := hid hkc
  have hn' := hid hn
  have hn9 : n ≤ 1024 := by omega
  obtain ⟨sa, hsa⟩ : ∃ s, (obGet m k).getD ⟨#[]⟩ = s := ⟨_, rfl⟩
  obtain ⟨xa, hxa⟩ : ∃ x : Int, (if (obGet m k).isSome then 0 else 1101) = x := ⟨_, rfl⟩
  rw [hkc, hsa, hxa]
  have hsa' := hid hsa
  have hxa' := hid hxa
  obtain ⟨W0, hW0⟩ : ∃ W0, w.alloc (.cells kc.toArray 33) = W0 := ⟨_, rfl⟩
  have hb0 : Below w.heap.size w W0 := by rw [← hW0]; exact (Below.refl _ _).alloc (Nat.le_refl _) _
  have hK0 := hid (show Holds W0 w.heap.size 33 kc from by rw [← hW0]; exact Holds.new w 33 kc.toArray)
  have hB0 := hid hb0
  have hW0' := hid hW0
  have hr := hid h1.lt
  clear hW0 hb0 h1 h2 hlen hok hm1 hm2 hn hkc hk hsa hxa
  go_enter Try.func21, Try.ntmps21
  go_wp2_with (first
    | ((with_reducible refine at_slot (some 3) ?_); refine wpList_run rfl (.pointer (some ⟨w.heap.size, 0, none⟩)) (w.alloc (.cells kc.toArray 33)) (by kernel_rfl) ?_; rw [hW0'.out])
    | fail)
  go_loopw [6] (fun ix wr => ∃ i : Nat, i ≤ n ∧ ix = .int .i64 (i : Int) ∧ Hid (∀ j q, j < i → m[j]? = some q → q.1 ≠ k) ∧ Holds wr w.heap.size 33 kc ∧ Below w.heap.size w wr) (fun ix _ => n - (intOf ix).toNat)
  case atStart => exact ⟨0, Nat.zero_le _, rfl, hid (fun j q hj => absurd hj (Nat.not_lt_zero j)), hK0.out, hB0.out⟩
  case round =>
    obtain ⟨i, hi, rfl, hno, hKr, hBr⟩ := hrel
    have hK1 := hid hKr
    have hB1 := hid hBr
    have c1 := (hH.out.below hBr hr.out).cO 1 _ rfl
    clear hKr hBr
    by_cases hlt : i < n
    · obtain ⟨p, hp⟩ : ∃ p, m[i]? = some p := ⟨_, List.getElem?_eq_getElem (by rw [hn'.out]; exact hlt)⟩
      obtain ⟨g, hgA, hgc⟩ := hOw.out wr hB1.out i p hp
      subst hgA
      have hp' := hid hp
      have hp32 := hid (hl32.out p (List.mem_of_getElem? hp))
      have hlt' : (i : Int) < (n : Int) := by omega
      have s3 : (0 : Int) ≤ (i : Int) := by omega
      have hiw := IntWalk.i64_in ((i : Int) + 1) (by omega)
      have hcells := hid (fun (V : World) (hV : ∀ j v, (obCells p)[j]? = some v → V.cell? (((⟨g, 0, none⟩ : Addr).add (i * 33)).add j) = some v) => show ∀ j v, (byteCells p.1)[j]? = some v → V.cell? (((⟨g, 0, none⟩ : Addr).add (i * 33)).add j) = some v from fun j v hj => hV j v (by unfold obCells; rw [List.getElem?_append_left (List.getElem?_eq_some_iff.1 hj).1]; exact hj))
      have hgc' := hid hgc
      have hpc2 := hid (show (Try.prog.info? 33).map (·.size) = some (byteCells p.1).length from by have := (hash_cells p.1 hp32.out).size; rwa [List.size_toArray] at this)
      have h32 : (obCells p)[32]? = some (.string p.2) := by
        unfold obCells
        rw [List.getElem?_append_right (by rw [byteCells, List.length_map, hp32.out]; exact Nat.le_refl _), byteCells, List.length_map, hp32.out]
        rfl
      have h32' := hid h32
      clear hp hgc h32
      obtain ⟨e, he⟩ : ∃ e, (p.1 == k) = e := ⟨_, rfl⟩
      have he' := hid he
      clear he
      go_wp2_with fail
      have hb : Below wr.heap.size wr wr.drew := (Below.refl _ _).drew
      have hK2 := hid (hK1.out.below hb hK1.out.lt)
      have hB2 := hid (below_up hb hB1.out)
      clear hb hK1 hB1
      refine wp_region_held_drew (S := fun V => Holds V r 82 [.int .i64 (most : Int), .slice (some ⟨g, 0, none⟩) n c] ∧ Holds V w.heap.size 33 kc ∧ ∀ j v, (obCells p)[j]? = some v → V.cell? (((⟨g, 0, none⟩ : Addr).add (i * 33)).add j) = some v) (by kernel_rfl) (by exact ⟨hH.out.below hB2.out hr.out, hK2.out, hgc'.out⟩) (fun hHeld => ?_)
      generalize wr.drew = W2 at *
      refine tkn 0 (.pointer (some ⟨r, 0, none⟩)) rfl (by kernel_rfl) (fun _ _ _ h => h) (yieldsIf_move _ rfl rfl rfl) hHeld ?_
      simp only [ly, Act.put]
      refine tkn 1 (.pointer (some ⟨r, 0, none⟩)) rfl (by kernel_rfl) (fun _ _ _ h => h) (.inl ⟨by kernel_rfl, fun w _ => by go_simp⟩) hHeld ?_
      simp only [ly, Act.put]
      refine tkn 2 (.pointer (some ⟨r, 1, none⟩)) rfl (by kernel_rfl) (fun _ _ _ h => h) (.inl ⟨by kernel_rfl, fun w _ => by go_simp⟩) hHeld ?_
      simp only [ly, Act.put]
      refine tkn 3 (.slice (some ⟨g, 0, none⟩) n c) rfl (by kernel_rfl) (fun _ _ _ h => h) (.inl ⟨by kernel_rfl, fun V hS => by have c1 := hS.1.cO 1 _ rfl; go_simp⟩) hHeld ?_
      simp only [ly, Act.put]
      refine tkn 4 (.int .i64 (i : Int)) rfl (by kernel_rfl) (fun _ _ _ h => h) (yieldsIf_move _ rfl rfl rfl) hHeld ?_
      simp only [ly, Act.put]
      refine tkn 5 (.pointer (some ((⟨g, 0, none⟩ : Addr).add (i * 33)))) rfl (by kernel_rfl) (fun _ _ _ h => h) (.inl ⟨by kernel_rfl, fun w _ => by go_simp⟩) hHeld ?_
      simp only [ly, Act.put]
      refine tkn 6 (.pointer (some ((⟨g, 0, none⟩ : Addr).add (i * 33)))) rfl (by kernel_rfl) (fun _ _ _ h => h) (.inl ⟨by kernel_rfl, fun w _ => by go_simp⟩) hHeld ?_
      simp only [ly, Act.put]
      refine tkn 7 (.agg (byteCells p.1).toArray) rfl (by kernel_rfl) (fun _ _ _ h => h) (yieldsIf_load_any (by kernel_rfl) _ _ rfl ((⟨g, 0, none⟩ : Addr).add (i * 33)) rfl (byteCells p.1) _ (fun V hS => hcells.out V hS.2.2) Try.underlying33 rfl (by exact hpc2.out)) hHeld ?_
      simp only [ly, Act.put]
      refine tkn 8 (.agg kc.toArray) rfl (by kernel_rfl) (fun _ _ _ h => h) (yieldsIf_load_any (by kernel_rfl) _ _ rfl ⟨w.heap.size, 0, none⟩ rfl kc _ (fun V hS => hS.2.1.anyO) Try.underlying33 rfl (by exact hKC2.out)) hHeld ?_
      simp only [ly, Act.put]
      refine tkn 9 (.bool e) rfl (by kernel_rfl) (fun _ _ _ h => h) (yieldsIf_zeql (by kernel_rfl) (.tmp 23) (.tmp 24) _ rfl p.1 k (by exact hp32.out) (by exact hk32.out) e (by exact he'.out) rfl (by rw [hkc'.out]; rfl)) hHeld ?_
      simp only [ly, Act.put]
      refine wpAnyH_done (by kernel_rfl) ?_ _
      cases e
      · have hne := he'.out
        have hno2 := hid (show ∀ j q, j < i + 1 → m[j]? = some q → q.1 ≠ k from fun j q hj hq => by
          by_cases h : j < i
          · exact hno.out j q h hq
          · have e : j = i := by omega
            subst e
            rw [hp'.out] at hq
            rw [← Option.some.inj hq]
            exact beq_eq_false_iff_ne.1 hne)
        clear hne
        go_wp2_with fail
        go_roundw
        case rel => exact ⟨i + 1, by omega, by go_num, hno2, hK2.out, hB2.out⟩
        case measure => simp [intOf]; omega
      · have hfin := hid (show obGet m k = some p.2 from obGet_fst hno.out hp'.out (eq_of_beq he'.out))
        have c1 := (hH.out.below hB2.out hr.out).cO 1 _ rfl
        obtain ⟨g2, hg2, hgc2⟩ := hOw.out _ hB2.out i p hp'.out
        obtain rfl : g = g2 := congrArg Addr.block (Option.some.inj hg2)
        have c32 := hgc2 32 _ h32'.out
        rw [add_add, show (⟨g, 0, none⟩ : Addr).add (i * 33 + 32) = ⟨g, i * 33 + 32, none⟩ from by unfold Addr.add; split <;> simp_all] at c32
        clear hgc2 hg2
        go_wp2_with fail
        go_ret2
        exact ⟨by rw [← hsa'.out, ← hxa'.out, hfin.out]; rfl, hB2.out⟩
    · have hlt' : ¬ (i : Int) < (n : Int) := by omega
      obtain rfl : i = n := by omega
      have hfin := hid (show obGet m k = none from obGet_out (fun j q hj hq => hno.out j q (by rw [← hn'.out]; exact hj) hq))
      go_wp2_with fail
      go_ret2
      exact ⟨by rw [← hsa'.out, ← hxa'.out, hfin.out]; rfl, hB1.out⟩

end Go.Proofs.Ytpjfhbmegabafaa
namespace Go.Proofs.Ytpjfhbmegabafaa
open Go.RowKit
open Go.Lib (strCells strCells_length strCells_oneCell)
attribute [local irreducible] Sha.compress Sha.blocks Sha.sha Sha.pad

theorem rown_apart {w : World} {n0 c k sz q : Nat} {A : Option Addr} {t t' : TypeId} {cs cs' : List Value} (h : w.ownsRow n0 t sz (.slice A k c) k cs) (hq : Holds w q t' cs') (ht : t' ≠ t) : (Value.slice A k c).ownBlock ≠ some q := by
  intro e
  obtain ⟨h1, ⟨hv, _⟩ | ⟨g, cap, cur, hv, hB, hh, rest⟩⟩ := h
  · rw [hv] at e; cases e
  · rw [hv] at e
    have e1 : g = q := Option.some.inj e
    subst e1
    unfold Holds at hq
    rw [hh] at hq
    have := Option.some.inj hq
    injection this with e2 e3
    exact ht e3.symm
theorem RStoreAt.far {w W : World} {B r most g o : Nat} {t : TypeId} {cs vs : List Value} {m : Obs} (h : RStoreAt w B r most m) (hg : Holds w g t cs) (ht : t ≠ 85) (hr : r ≠ g) (e : w.setCells g o vs = W) : RStoreAt W B r most m := by
  obtain ⟨A, c, h1, h2, h3⟩ := h
  exact ⟨A, c, holds_far h1 hr e, row_far h2 (rown_apart h2 hg ht) e, h3⟩
theorem KeepO.far {r g o : Nat} {a w W : World} {vs : List Value} (h : KeepO r a w) (hg : a.heap.size ≤ g) (e : w.setCells g o vs = W) : KeepO r a W := by
  subst e
  have hb := below_setCells (Below.refl g w) g o vs (Nat.le_refl _)
  exact ⟨Nat.le_trans h.1 hb.size, fun i x hi hr hx => (hb.block i (Nat.lt_of_lt_of_le (Array.getElem?_eq_some_iff.1 hi).1 hg)).trans (h.2 i x hi hr hx)⟩
theorem KeepO.own {r g o : Nat} {a w W : World} {vs : List Value} (h : KeepO r a w) (hg : g = r) (e : w.setCells g o vs = W) : KeepO r a W := by
  subst e
  have hb := below_setCells (Below.refl 0 w) g o vs (Nat.zero_le _)
  exact ⟨Nat.le_trans h.1 hb.size, fun i x hi hr hx => (setCells_far w g o vs i (by rw [hg]; exact hr)).trans (h.2 i x hi hr hx)⟩
theorem KeepO.grown {r n0 c k : Nat} {A : Option Addr} {w W : World} {cs : List Value} (h : w.ownsRow n0 85 33 (.slice A k c) k cs) (hg : w.grownBy W (Value.slice A k c).ownBlock) : KeepO r w W := by
  refine ⟨hg.size, fun i x hi _ hx => (hg.block i (Array.getElem?_eq_some_iff.1 hi).1 (fun e => ?_)).trans hi⟩
  obtain ⟨h1, ⟨hv, _⟩ | ⟨g, cap, cur, hv, hB, hh, rest⟩⟩ := h
  · rw [hv] at e; cases e
  · rw [hv] at e
    have e1 : i = g := Option.some.inj e
    subst e1
    rw [hh] at hi
    exact hx _ _ (Option.some.inj hi).symm
theorem infoObj : (Try.prog.info? 85).map (fun i => (i.zero, i.size, i.bytes)) = some (some (.agg zOb.toArray), 33, 48) := by kernel_rfl
set_option maxRecDepth 100000 in
set_option maxHeartbeats 2000000 in
theorem rPut_long (B r most : Nat) (_ : B ≤ r) (m : Obs) (d : ByteArray) (hd : 4096 < d.size) (w : World) (hBw : B ≤ w.heap.size) (hR : RStoreAt w B r most m) : Calls Try.prog 16 #[.pointer (some ⟨r, 0, none⟩), .string d] w fun e w' => e = .returned (.tuple #[.agg z32, .int .i64 1100]) ∧ RStoreAt w' B r most m ∧ Below B w w' ∧ KeepO r w w' := by
  have hi : (4096 : Int) < (d.size : Int) := by omega
  obtain ⟨W0, hW0⟩ : ∃ W0, w.alloc (.cells z32 33) = W0 := ⟨_, rfl⟩
  have hb0 : Below w.heap.size w W0 := by rw [← hW0]; exact (Below.refl _ _).alloc (Nat.le_refl _) _
  have hZ0 := hid (show Holds W0 w.heap.size 33 z32.toList from by rw [← hW0]; exact Holds.new _ _ _)
  have hB0 := hid hb0
  have hW0' := hid hW0
  have hRR := hid hR
  clear hW0 hb0 hR hd
  go_enter Try.func16, Try.ntmps16
  go_wp2_with (first
    | ((with_reducible refine at_slot (some 4) ?_); refine wpList_run rfl (.pointer (some ⟨w.heap.size, 0, none⟩)) (w.alloc (.cells z32 33)) (by kernel_rfl) ?_; rw [hW0'.out])
    | ((with_reducible refine at_slot (some 12) ?_); refine wpList_run rfl (.agg z32) W0 (by kernel_rfl) ?_)
    | ((with_reducible refine at_slot none ?_); refine wpList_store_mid rfl 33 (.tmp 4) (.tmp 12) rfl w.heap.size 0 z32 rfl rfl (by exact hZ0.out.there 0 _ (Nat.le_refl 32)) (by kernel_rfl) (by kernel_rfl) ?_; generalize hW9 : World.setCells _ _ _ _ = W9; have hZ9 := hid (Holds.over hZ0.out rfl hW9); have hB9 := hid (below_put hB0.out (Nat.le_refl _) hW9); clear hW9)
    | fail)
  exact bodyPost_ret (results_ct rfl _ _ w.heap.size 33 _ (0, 0) _ rfl hZ9.out (.int .i64 1100) rfl Try.underlying33 rfl (by kernel_rfl)) rfl ⟨rfl, hRR.out.on hB9.out, hB9.out.mono hBw, KeepO.of hB9.out⟩

set_option maxRecDepth 100000 in
set_option maxHeartbeats 2000000 in
theorem rPut_there (B r most : Nat) (_ : B ≤ r) (m : Obs) (d : ByteArray) (hd : d.size ≤ 4096) (x : ByteArray) (hx : obGet m (obHash d) = some x) (w : World) (hBw : B ≤ w.heap.size) (hR : RStoreAt w B r most m) : Calls Try.prog 16 #[.pointer (some ⟨r, 0, none⟩), .string d] w fun e w' => e = .returned (.tuple #[.agg (byteCells (obHash d)).toArray, .int .i64 0]) ∧ RStoreAt w' B r most m ∧ Below B w w' ∧ KeepO r w w' := by
  have hi : ¬ (4096 : Int) < (d.size : Int) := by omega
  have hOb := hid (fun W => rObject_any d (by omega) W)
  have hoa : objAns d = obHash d := if_pos (by omega)
  have hgt := hid (fun V (h : RStoreAt V B r most m) => rGet_any B r most m (obHash d) (obHash_len d) V h)
  rw [hx] at hgt
  rw [hoa] at hOb
  have hk := obHash_len d
  obtain ⟨hc, hhc⟩ : ∃ c, byteCells (obHash d) = c := ⟨_, rfl⟩
  have hC := hid (show HashCells hc from by rw [← hhc]; exact hash_cells _ hk)
  have hC2 := hid (show (Try.prog.info? 33).map (·.size) = some hc.length from by have := hC.out.size; rwa [List.size_toArray] at this)
  rw [hhc] at hOb hgt
  rw [hhc]
  obtain ⟨W0, hW0⟩ : ∃ W0, w.alloc (.cells z32 33) = W0 := ⟨_, rfl⟩
  have hb0 : Below w.heap.size w W0 := by rw [← hW0]; exact (Below.refl _ _).alloc (Nat.le_refl _) _
  have hR0 := hid (hR.on hb0)
  have hZ0 := hid (show Holds W0 w.heap.size 33 z32.toList from by rw [← hW0]; exact Holds.new _ _ _)
  have hB0 := hid hb0
  have hW0' := hid hW0
  have hrl := hid (show r < w.heap.size from by obtain ⟨_, _, h, -⟩ := hR; exact h.lt)
  clear hhc hk hW0 hb0 hR hd hoa hx
  go_enter Try.func16, Try.ntmps16
  go_wp2_with (first
    | ((with_reducible refine at_slot (some 4) ?_); refine wpList_run rfl (.pointer (some ⟨w.heap.size, 0, none⟩)) (w.alloc (.cells z32 33)) (by kernel_rfl) ?_; rw [hW0'.out])
    | fail)
  refine (hOb.out _).mono ?_
  rintro e W1 ⟨rfl, hb⟩
  have hR1 := hid (hR0.out.on hb)
  have hZ1 := hid (hZ0.out.below hb hZ0.out.lt)
  have hB1 := hid (below_up hb hB0.out)
  clear hb hR0 hZ0 hB0
  have hlt6 := hid (show w.heap.size < W1.heap.size ∧ r < W1.heap.size from ⟨hZ1.out.lt, by have := hrl.out; have := hZ1.out.lt; omega⟩)
  go_wp2_with (first
    | ((with_reducible refine at_slot (some 6) ?_); refine wpList_run rfl (.pointer (some ⟨W1.heap.size, 0, none⟩)) (W1.alloc (.cells z32 33)) (by kernel_rfl) ?_)
    | ((with_reducible refine at_slot none ?_); refine wpList_store_mid rfl 33 (.tmp 6) (.tmp 14) rfl W1.heap.size 0 hc.toArray rfl rfl (by exact hC.out.there W1) (by exact hC.out.size) (by exact hC.out.one) ?_; generalize hW : World.setCells _ _ _ _ = W2; obtain ⟨hN, hb⟩ := hC.out.new hW; have hR2 := hid (hR1.out.on hb); have hZ2 := hid (hZ1.out.below hb hZ1.out.lt); have hB2 := hid (below_up hb hB1.out); have hX2 := hid hN; clear hb hR1 hZ1 hB1 hN; clear hW)
    | ((with_reducible refine at_slot (some 17) ?_); refine wpList_load_mid rfl 33 (.tmp 6) rfl W1.heap.size 0 rfl hc _ (by exact h_all hX2.out) Try.underlying33 rfl (by exact hC2.out) ?_)
    | fail)
  obtain ⟨g6, hg6⟩ : ∃ g, W1.heap.size = g := ⟨_, rfl⟩
  rw [hg6] at hX2 hlt6 ⊢
  clear hg6
  refine (hgt.out _ hR2.out).mono ?_
  rintro e W3 ⟨rfl, hb⟩
  have hR3 := hid (hR2.out.on hb)
  have hZ3 := hid (hZ2.out.below hb hZ2.out.lt)
  have hB3 := hid (below_up hb hB2.out)
  have hX3 := hid (hX2.out.below hb hX2.out.lt)
  clear hb hR2 hZ2 hB2 hX2
  try (rename_i hKK; refine hKK _ _ ?_; clear hKK)
  go_wp2_with (first
    | ((with_reducible refine at_slot (some 24) ?_); refine wpList_load_mid rfl 33 (.tmp 6) rfl g6 0 rfl hc _ (by exact h_all hX3.out) Try.underlying33 rfl (by exact hC2.out) ?_)
    | ((with_reducible refine at_slot none ?_); refine wpList_store_mid rfl 33 (.tmp 4) (.tmp 24) rfl w.heap.size 0 hc.toArray rfl rfl (by exact hZ3.out.there 0 _ (by rw [List.size_toArray, hC.out.len]; decide)) (by exact hC.out.size) (by exact hC.out.one) ?_; generalize hW9 : World.setCells _ _ _ _ = W9; have hZ9 := hid (Holds.over hZ3.out (by rw [hC.out.len]; rfl) hW9); have hB9 := hid (below_put hB3.out (Nat.le_refl _) hW9); have hR9 := hid (hR3.out.far hZ3.out (by decide) (by have := hrl.out; omega) hW9); clear hW9)
    | fail)
  exact bodyPost_ret (results_ct rfl _ _ w.heap.size 33 _ (0, 0) _ rfl hZ9.out (.int .i64 0) rfl Try.underlying33 rfl (by exact hC.out.size)) rfl ⟨rfl, hR9.out, hB9.out.mono hBw, KeepO.of hB9.out⟩

set_option maxRecDepth 100000 in
set_option maxHeartbeats 2000000 in
theorem rPut_full (B r most : Nat) (_ : B ≤ r) (m : Obs) (d : ByteArray) (hd : d.size ≤ 4096) (hx : obGet m (obHash d) = none) (hm : m.length = most) (w : World) (hBw : B ≤ w.heap.size) (hR : RStoreAt w B r most m) : Calls Try.prog 16 #[.pointer (some ⟨r, 0, none⟩), .string d] w fun e w' => e = .returned (.tuple #[.agg z32, .int .i64 1102]) ∧ RStoreAt w' B r most m ∧ Below B w w' ∧ KeepO r w w' := by
  have hi : ¬ (4096 : Int) < (d.size : Int) := by omega
  have hOb := hid (fun W => rObject_any d (by omega) W)
  have hoa : objAns d = obHash d := if_pos (by omega)
  have hgt := hid (fun V (h : RStoreAt V B r most m) => rGet_any B r most m (obHash d) (obHash_len d) V h)
  rw [hx] at hgt
  rw [hoa] at hOb
  have hk := obHash_len d
  obtain ⟨A, c, h1, h2, hok, hm1, hm2⟩ := hR
  obtain ⟨n, hn⟩ : ∃ n, m.length = n := ⟨_, rfl⟩
  have hn' := hid hn
  have hok' := hid hok
  rw [hn] at h1 h2 hm2 hm
  have hR : RStoreAt w B r most m := ⟨A, c, by rw [hn]; exact h1, by rw [hn]; exact h2, hok, hm1, by omega⟩
  have heq : ((n : Int) == (most : Int)) = true := by rw [beq_iff_eq]; omega
  obtain ⟨hc, hhc⟩ : ∃ c, byteCells (obHash d) = c := ⟨_, rfl⟩
  have hC := hid (show HashCells hc from by rw [← hhc]; exact hash_cells _ hk)
  have hC2 := hid (show (Try.prog.info? 33).map (·.size) = some hc.length from by have := hC.out.size; rwa [List.size_toArray] at this)
  rw [hhc] at hOb hgt
  obtain ⟨W0, hW0⟩ : ∃ W0, w.alloc (.cells z32 33) = W0 := ⟨_, rfl⟩
  have hb0 : Below w.heap.size w W0 := by rw [← hW0]; exact (Below.refl _ _).alloc (Nat.le_refl _) _
  have hR0 := hid (hR.on hb0)
  have hZ0 := hid (show Holds W0 w.heap.size 33 z32.toList from by rw [← hW0]; exact Holds.new _ _ _)
  have hB0 := hid hb0
  have hW0' := hid hW0
  have hH0 := hid (h1.below hb0 h1.lt)
  have hrl := hid (show r < w.heap.size from by obtain ⟨_, _, h, -⟩ := hR; exact h.lt)
  clear hhc hk hW0 hb0 hR hd hoa h1 h2 hok hm1 hm2 hn hm hx
  go_enter Try.func16, Try.ntmps16
  go_wp2_with (first
    | ((with_reducible refine at_slot (some 4) ?_); refine wpList_run rfl (.pointer (some ⟨w.heap.size, 0, none⟩)) (w.alloc (.cells z32 33)) (by kernel_rfl) ?_; rw [hW0'.out])
    | fail)
  refine (hOb.out _).mono ?_
  rintro e W1 ⟨rfl, hb⟩
  have hR1 := hid (hR0.out.on hb)
  have hZ1 := hid (hZ0.out.below hb hZ0.out.lt)
  have hB1 := hid (below_up hb hB0.out)
  have hH1 := hid (hH0.out.below hb hH0.out.lt)
  clear hb hR0 hZ0 hB0 hH0
  have hlt6 := hid (show w.heap.size < W1.heap.size ∧ r < W1.heap.size from ⟨hZ1.out.lt, by have := hrl.out; have := hZ1.out.lt; omega⟩)
  go_wp2_with (first
    | ((with_reducible refine at_slot (some 6) ?_); refine wpList_run rfl (.pointer (some ⟨W1.heap.size, 0, none⟩)) (W1.alloc (.cells z32 33)) (by kernel_rfl) ?_)
    | ((with_reducible refine at_slot none ?_); refine wpList_store_mid rfl 33 (.tmp 6) (.tmp 14) rfl W1.heap.size 0 hc.toArray rfl rfl (by exact hC.out.there W1) (by exact hC.out.size) (by exact hC.out.one) ?_; generalize hW : World.setCells _ _ _ _ = W2; obtain ⟨hN, hb⟩ := hC.out.new hW; have hR2 := hid (hR1.out.on hb); have hZ2 := hid (hZ1.out.below hb hZ1.out.lt); have hB2 := hid (below_up hb hB1.out); have hH2 := hid (hH1.out.below hb hH1.out.lt); have hX2 := hid hN; clear hb hR1 hZ1 hB1 hH1 hN; clear hW)
    | ((with_reducible refine at_slot (some 17) ?_); refine wpList_load_mid rfl 33 (.tmp 6) rfl W1.heap.size 0 rfl hc _ (by exact h_all hX2.out) Try.underlying33 rfl (by exact hC2.out) ?_)
    | fail)
  obtain ⟨g6, hg6⟩ : ∃ g, W1.heap.size = g := ⟨_, rfl⟩
  rw [hg6] at hX2 hlt6 ⊢
  clear hg6
  refine (hgt.out _ hR2.out).mono ?_
  rintro e W3 ⟨rfl, hb⟩
  have hR3 := hid (hR2.out.on hb)
  have hZ3 := hid (hZ2.out.below hb hZ2.out.lt)
  have hB3 := hid (below_up hb hB2.out)
  have hH3 := hid (hH2.out.below hb hH2.out.lt)
  have hX3 := hid (hX2.out.below hb hX2.out.lt)
  clear hb hR2 hZ2 hB2 hH2 hX2
  try (rename_i hKK; refine hKK _ _ ?_; clear hKK)
  go_wp2_with fail
  have hb : Below W3.heap.size W3 W3.drew := (Below.refl _ _).drew
  have hR4 := hid (hR3.out.on hb)
  have hZ4 := hid (hZ3.out.below hb hZ3.out.lt)
  have hB4 := hid (below_up hb hB3.out)
  have hH4 := hid (hH3.out.below hb hH3.out.lt)
  have hX4 := hid (hX3.out.below hb hX3.out.lt)
  clear hb hR3 hZ3 hB3 hH3 hX3
  refine wp_region_held_drew (S := fun V => Holds V r 82 [.int .i64 (most : Int), .slice A n c]) (by kernel_rfl) (by exact hH4.out) (fun hHeld => ?_)
  generalize W3.drew = W4 at *
  refine tkn 0 (.pointer (some ⟨r, 0, none⟩)) rfl (by kernel_rfl) (fun _ _ _ h => h) (yieldsIf_move _ rfl rfl rfl) hHeld ?_
  simp only [ly, Act.put]
  refine tkn 1 (.pointer (some ⟨r, 0, none⟩)) rfl (by kernel_rfl) (fun _ _ _ h => h) (.inl ⟨by kernel_rfl, fun w _ => by go_simp⟩) hHeld ?_
  simp only [ly, Act.put]
  refine tkn 2 (.pointer (some ⟨r, 1, none⟩)) rfl (by kernel_rfl) (fun _ _ _ h => h) (.inl ⟨by kernel_rfl, fun w _ => by go_simp⟩) hHeld ?_
  simp only [ly, Act.put]
  refine tkn 3 (.slice A n c) rfl (by kernel_rfl) (fun _ _ _ h => h) (.inl ⟨by kernel_rfl, fun V hS => by have c1 := hS.cO 1 _ rfl; go_simp⟩) hHeld ?_
  simp only [ly, Act.put]
  refine tkn 4 (.int .i64 (n : Int)) rfl (by kernel_rfl) (fun _ _ _ h => h) (.inl ⟨by kernel_rfl, fun w _ => by go_simp⟩) hHeld ?_
  simp only [ly, Act.put]
  refine tkn 5 (.pointer (some ⟨r, 0, none⟩)) rfl (by kernel_rfl) (fun _ _ _ h => h) (yieldsIf_move _ rfl rfl rfl) hHeld ?_
  simp only [ly, Act.put]
  refine tkn 6 (.pointer (some ⟨r, 0, none⟩)) rfl (by kernel_rfl) (fun _ _ _ h => h) (.inl ⟨by kernel_rfl, fun w _ => by go_simp⟩) hHeld ?_
  simp only [ly, Act.put]
  refine tkn 7 (.pointer (some ⟨r, 0, none⟩)) rfl (by kernel_rfl) (fun _ _ _ h => h) (.inl ⟨by kernel_rfl, fun w _ => by go_simp⟩) hHeld ?_
  simp only [ly, Act.put]
  refine tkn 8 (.int .i64 (most : Int)) rfl (by kernel_rfl) (fun _ _ _ h => h) (.inl ⟨by kernel_rfl, fun V hS => by have c0 := hS.cO 0 _ rfl; go_simp⟩) hHeld ?_
  simp only [ly, Act.put]
  refine tkn 9 (.bool true) rfl (by kernel_rfl) (fun _ _ _ h => h) (.inl ⟨by kernel_rfl, fun w _ => by go_simp⟩) hHeld ?_
  simp only [ly, Act.put]
  refine tkn 10 (.bool true) rfl (by kernel_rfl) (fun _ _ _ h => h) (yieldsIf_assign _ rfl rfl rfl) hHeld ?_
  simp only [ly, Act.put]
  refine wpAnyH_done (by kernel_rfl) ?_ _
  go_wp2_with (first
    | ((with_reducible refine at_slot (some 36) ?_); refine wpList_run rfl (.agg z32) W4 (by kernel_rfl) ?_)
    | ((with_reducible refine at_slot none ?_); refine wpList_store_mid rfl 33 (.tmp 4) (.tmp 36) rfl w.heap.size 0 z32 rfl rfl (by exact hZ4.out.there 0 _ (Nat.le_refl 32)) (by kernel_rfl) (by kernel_rfl) ?_; generalize hW9 : World.setCells _ _ _ _ = W9; have hZ9 := hid (Holds.over hZ4.out rfl hW9); have hB9 := hid (below_put hB4.out (Nat.le_refl _) hW9); have hR9 := hid (hR4.out.far hZ4.out (by decide) (by have := hrl.out; omega) hW9); clear hW9)
    | fail)
  exact bodyPost_ret (results_ct rfl _ _ w.heap.size 33 _ (0, 0) _ rfl hZ9.out (.int .i64 1102) rfl Try.underlying33 rfl (by kernel_rfl)) rfl ⟨rfl, hR9.out, hB9.out.mono hBw, KeepO.of hB9.out⟩

set_option maxRecDepth 100000 in
set_option maxHeartbeats 2000000 in
theorem rPut_new (B r most : Nat) (hBr : B ≤ r) (m : Obs) (d : ByteArray) (hd : d.size ≤ 4096) (hx : obGet m (obHash d) = none) (hm : m.length < most) (w : World) (hBw : B ≤ w.heap.size) (hR : RStoreAt w B r most m) : Calls Try.prog 16 #[.pointer (some ⟨r, 0, none⟩), .string d] w fun e w' => e = .returned (.tuple #[.agg (byteCells (obHash d)).toArray, .int .i64 0]) ∧ RStoreAt w' B r most (m ++ [(obHash d, d)]) ∧ Below B w w' ∧ KeepO r w w' := by
  have hi : ¬ (4096 : Int) < (d.size : Int) := by omega
  have hOb := hid (fun W => rObject_any d (by omega) W)
  have hoa : objAns d = obHash d := if_pos (by omega)
  have hgt := hid (fun V (h : RStoreAt V B r most m) => rGet_any B r most m (obHash d) (obHash_len d) V h)
  rw [hx] at hgt
  rw [hoa] at hOb
  have hk := obHash_len d
  have hbuild := hid (ob_build (obHash d) d)
  have hO := hid (ob_cells (obHash d) hk d)
  have hones := hid (show ∀ u ∈ obCells (obHash d, d), u.oneCell' = true from fun u hu => Array.all_eq_true_iff_forall_mem.1 (ob_cells (obHash d) hk d).one u (by simpa using hu))
  obtain ⟨A, c, h1, h2, hok, hm1, hm2⟩ := hR
  obtain ⟨n, hn⟩ : ∃ n, m.length = n := ⟨_, rfl⟩
  have hn' := hid hn
  have hok' := hid hok
  rw [hn] at h1 h2 hm2 hm
  have hR : RStoreAt w B r most m := ⟨A, c, by rw [hn]; exact h1, by rw [hn]; exact h2, hok, hm1, by omega⟩
  have heq : ((n : Int) == (most : Int)) = false := by rw [beq_eq_false_iff_ne]; omega
  have hn9 : n ≤ 1024 := by omega
  have hmm := hid (And.intro hm1 hm)
  obtain ⟨hc, hhc⟩ : ∃ c, byteCells (obHash d) = c := ⟨_, rfl⟩
  have hC := hid (show HashCells hc from by rw [← hhc]; exact hash_cells _ hk)
  have hC2 := hid (show (Try.prog.info? 33).map (·.size) = some hc.length from by have := hC.out.size; rwa [List.size_toArray] at this)
  obtain ⟨oc, hoc⟩ : ∃ c, obCells (obHash d, d) = c := ⟨_, rfl⟩
  rw [hhc, hoc] at hbuild
  rw [hoc] at hO hones
  have hsn := hid (rowOb_snoc m (obHash d, d))
  rw [hoc] at hsn
  have hY := hid (show hc.toArray.size = 32 from by rw [List.size_toArray, hC.out.len])
  have hx' := hid hx
  rw [hhc] at hOb hgt
  rw [hhc]
  obtain ⟨W0, hW0⟩ : ∃ W0, w.alloc (.cells z32 33) = W0 := ⟨_, rfl⟩
  have hb0 : Below w.heap.size w W0 := by rw [← hW0]; exact (Below.refl _ _).alloc (Nat.le_refl _) _
  have hR0 := hid (hR.on hb0)
  have hZ0 := hid (show Holds W0 w.heap.size 33 z32.toList from by rw [← hW0]; exact Holds.new _ _ _)
  have hB0 := hid hb0
  have hW0' := hid hW0
  have hH0 := hid (h1.below hb0 h1.lt)
  have hO0 := hid (rown_on h2 hb0)
  have hrl := hid (show r < w.heap.size from by obtain ⟨_, _, h, -⟩ := hR; exact h.lt)
  clear hhc hk hW0 hb0 hR hd hoa h1 h2 hok hm1 hm2 hn hm hoc hx
  go_enter Try.func16, Try.ntmps16
  go_wp2_with (first
    | ((with_reducible refine at_slot (some 4) ?_); refine wpList_run rfl (.pointer (some ⟨w.heap.size, 0, none⟩)) (w.alloc (.cells z32 33)) (by kernel_rfl) ?_; rw [hW0'.out])
    | fail)
  refine (hOb.out _).mono ?_
  rintro e W1 ⟨rfl, hb⟩
  have hR1 := hid (hR0.out.on hb)
  have hZ1 := hid (hZ0.out.below hb hZ0.out.lt)
  have hB1 := hid (below_up hb hB0.out)
  have hH1 := hid (hH0.out.below hb hH0.out.lt)
  have hO1 := hid (rown_on hO0.out hb)
  clear hb hR0 hZ0 hB0 hH0 hO0
  have hlt6 := hid (show w.heap.size < W1.heap.size ∧ r < W1.heap.size from ⟨hZ1.out.lt, by have := hrl.out; have := hZ1.out.lt; omega⟩)
  go_wp2_with (first
    | ((with_reducible refine at_slot (some 6) ?_); refine wpList_run rfl (.pointer (some ⟨W1.heap.size, 0, none⟩)) (W1.alloc (.cells z32 33)) (by kernel_rfl) ?_)
    | ((with_reducible refine at_slot none ?_); refine wpList_store_mid rfl 33 (.tmp 6) (.tmp 14) rfl W1.heap.size 0 hc.toArray rfl rfl (by exact hC.out.there W1) (by exact hC.out.size) (by exact hC.out.one) ?_; generalize hW : World.setCells _ _ _ _ = W2; obtain ⟨hN, hb⟩ := hC.out.new hW; have hR2 := hid (hR1.out.on hb); have hZ2 := hid (hZ1.out.below hb hZ1.out.lt); have hB2 := hid (below_up hb hB1.out); have hH2 := hid (hH1.out.below hb hH1.out.lt); have hO2 := hid (rown_on hO1.out hb); have hX2 := hid hN; clear hb hR1 hZ1 hB1 hH1 hO1 hN; clear hW)
    | ((with_reducible refine at_slot (some 17) ?_); refine wpList_load_mid rfl 33 (.tmp 6) rfl W1.heap.size 0 rfl hc _ (by exact h_all hX2.out) Try.underlying33 rfl (by exact hC2.out) ?_)
    | fail)
  obtain ⟨g6, hg6⟩ : ∃ g, W1.heap.size = g := ⟨_, rfl⟩
  rw [hg6] at hX2 hlt6 ⊢
  clear hg6
  refine (hgt.out _ hR2.out).mono ?_
  rintro e W3 ⟨rfl, hb⟩
  have hR3 := hid (hR2.out.on hb)
  have hZ3 := hid (hZ2.out.below hb hZ2.out.lt)
  have hB3 := hid (below_up hb hB2.out)
  have hH3 := hid (hH2.out.below hb hH2.out.lt)
  have hO3 := hid (rown_on hO2.out hb)
  have hX3 := hid (hX2.out.below hb hX2.out.lt)
  clear hb hR2 hZ2 hB2 hH2 hO2 hX2
  try (rename_i hKK; refine hKK _ _ ?_; clear hKK)
  go_wp2_with fail
  have hb : Below W3.heap.size W3 W3.drew := (Below.refl _ _).drew
  have hR4 := hid (hR3.out.on hb)
  have hZ4 := hid (hZ3.out.below hb hZ3.out.lt)
  have hB4 := hid (below_up hb hB3.out)
  have hH4 := hid (hH3.out.below hb hH3.out.lt)
  have hO4 := hid (rown_on hO3.out hb)
  have hX4 := hid (hX3.out.below hb hX3.out.lt)
  clear hb hR3 hZ3 hB3 hH3 hO3 hX3
  refine wp_region_held_drew (S := fun V => Holds V r 82 [.int .i64 (most : Int), .slice A n c]) (by kernel_rfl) (by exact hH4.out) (fun hHeld => ?_)
  generalize W3.drew = W4 at *
  refine tkn 0 (.pointer (some ⟨r, 0, none⟩)) rfl (by kernel_rfl) (fun _ _ _ h => h) (yieldsIf_move _ rfl rfl rfl) hHeld ?_
  simp only [ly, Act.put]
  refine tkn 1 (.pointer (some ⟨r, 0, none⟩)) rfl (by kernel_rfl) (fun _ _ _ h => h) (.inl ⟨by kernel_rfl, fun w _ => by go_simp⟩) hHeld ?_
  simp only [ly, Act.put]
  refine tkn 2 (.pointer (some ⟨r, 1, none⟩)) rfl (by kernel_rfl) (fun _ _ _ h => h) (.inl ⟨by kernel_rfl, fun w _ => by go_simp⟩) hHeld ?_
  simp only [ly, Act.put]
  refine tkn 3 (.slice A n c) rfl (by kernel_rfl) (fun _ _ _ h => h) (.inl ⟨by kernel_rfl, fun V hS => by have c1 := hS.cO 1 _ rfl; go_simp⟩) hHeld ?_
  simp only [ly, Act.put]
  refine tkn 4 (.int .i64 (n : Int)) rfl (by kernel_rfl) (fun _ _ _ h => h) (.inl ⟨by kernel_rfl, fun w _ => by go_simp⟩) hHeld ?_
  simp only [ly, Act.put]
  refine tkn 5 (.pointer (some ⟨r, 0, none⟩)) rfl (by kernel_rfl) (fun _ _ _ h => h) (yieldsIf_move _ rfl rfl rfl) hHeld ?_
  simp only [ly, Act.put]
  refine tkn 6 (.pointer (some ⟨r, 0, none⟩)) rfl (by kernel_rfl) (fun _ _ _ h => h) (.inl ⟨by kernel_rfl, fun w _ => by go_simp⟩) hHeld ?_
  simp only [ly, Act.put]
  refine tkn 7 (.pointer (some ⟨r, 0, none⟩)) rfl (by kernel_rfl) (fun _ _ _ h => h) (.inl ⟨by kernel_rfl, fun w _ => by go_simp⟩) hHeld ?_
  simp only [ly, Act.put]
  refine tkn 8 (.int .i64 (most : Int)) rfl (by kernel_rfl) (fun _ _ _ h => h) (.inl ⟨by kernel_rfl, fun V hS => by have c0 := hS.cO 0 _ rfl; go_simp⟩) hHeld ?_
  simp only [ly, Act.put]
  refine tkn 9 (.bool false) rfl (by kernel_rfl) (fun _ _ _ h => h) (.inl ⟨by kernel_rfl, fun w _ => by go_simp⟩) hHeld ?_
  simp only [ly, Act.put]
  refine tkn 10 (.bool false) rfl (by kernel_rfl) (fun _ _ _ h => h) (yieldsIf_assign _ rfl rfl rfl) hHeld ?_
  simp only [ly, Act.put]
  refine wpAnyH_done (by kernel_rfl) ?_ _
  go_wp2_with fail
  obtain ⟨io, hi0, hz0, hz1, hz2⟩ := info_parts infoObj
  have hb : Below W4.heap.size W4 W4.drew := (Below.refl _ _).drew
  have hR5 := hid (hR4.out.on hb)
  have hZ5 := hid (hZ4.out.below hb hZ4.out.lt)
  have hB5 := hid (below_up hb hB4.out)
  have hH5 := hid (hH4.out.below hb hH4.out.lt)
  have hO5 := hid (rown_on hO4.out hb)
  have hX5 := hid (hX4.out.below hb hX4.out.lt)
  clear hb hR4 hZ4 hB4 hH4 hO4 hX4
  refine wp_region_held_drew (S := fun V => Holds V g6 33 hc) (by kernel_rfl) (by exact hX5.out) (fun hHeld => ?_)
  generalize W4.drew = W5 at *
  refine tkn 0 (.pointer (some ⟨r, 0, none⟩)) rfl (by kernel_rfl) (fun _ _ _ h => h) (yieldsIf_move _ rfl rfl rfl) hHeld ?_
  simp only [ly, Act.put]
  refine tkn 1 (.pointer (some ⟨r, 0, none⟩)) rfl (by kernel_rfl) (fun _ _ _ h => h) (.inl ⟨by kernel_rfl, fun w _ => by go_simp⟩) hHeld ?_
  simp only [ly, Act.put]
  refine tkn 2 (.pointer (some ⟨r, 0, none⟩)) rfl (by kernel_rfl) (fun _ _ _ h => h) (.inl ⟨by kernel_rfl, fun w _ => by go_simp⟩) hHeld ?_
  simp only [ly, Act.put]
  refine tkn 3 (.pointer (some ⟨r, 1, none⟩)) rfl (by kernel_rfl) (fun _ _ _ h => h) (.inl ⟨by kernel_rfl, fun w _ => by go_simp⟩) hHeld ?_
  simp only [ly, Act.put]
  refine tkn 5 (.agg hc.toArray) rfl (by kernel_rfl) (fun _ _ _ h => h) (yieldsIf_load_any (by kernel_rfl) _ _ rfl ⟨g6, 0, none⟩ rfl hc _ (fun V hS => (show Holds V g6 33 hc from hS).anyO) Try.underlying33 rfl (by exact hC2.out)) hHeld ?_
  simp only [ly, Act.put]
  refine tkn 6 (.string d) rfl (by kernel_rfl) (fun _ _ _ h => h) (yieldsIf_move _ rfl rfl rfl) hHeld ?_
  simp only [ly, Act.put]
  refine tkn 7 (.agg oc.toArray) rfl (by kernel_rfl) (fun _ _ _ h => h) (.inl ⟨by kernel_rfl, fun w _ => by rw [hbuild.out]; have hys := hY.out; generalize hc.toArray = Y at hys ⊢; go_simp; rw [place_first _ _ _ hys (by simp)]; simp [put, hys]; exact Array.toList_inj.1 (by simp)⟩) hHeld ?_
  simp only [ly, Act.put]
  refine wpAnyH_ready (rs := [4, 8]) (by kernel_rfl) (by simp) (AllReadyH.cons rfl (fun K hK => ?_) (AllReadyH.cons rfl (fun K hK => ?_) AllReadyH.nil))
  · skip
    have hK' := hid hK
    clear hK
    rw [if_pos (by kernel_rfl)]
    simp only [ly1, ly2, ly3]
    have cg := hH5.out.cO 1 _ rfl
    go_simp
    clear cg
    refine hK'.out _ _ (by exact hX5.out) (fun hHeld => ?_)
    clear hK' K
    refine wpAnyH_ready (rs := [8]) (by kernel_rfl) (by simp) (AllReadyH.cons rfl (fun K hK => ?_) AllReadyH.nil)
    have hK' := hid hK
    clear hK
    rw [if_pos (by kernel_rfl)]
    simp only [ly1, ly2, ly3]
    refine wp_buildOne 80 85 (.tmp 44) rfl io _ Try.underlying80 hi0 hz0 oc.toArray rfl (by rw [hz1, List.size_toArray, hO.out.len]) (by rw [List.size_toArray, hO.out.len]; decide) (by rw [List.size_toArray, hO.out.len]; decide) ?_
    obtain ⟨gq, hgq⟩ : ∃ g, W5.heap.size = g := ⟨_, rfl⟩
    have hb : Below W5.heap.size W5 (W5.alloc (.cells oc.toArray 85)) := (Below.refl _ _).alloc (Nat.le_refl _) _
    have hN : Holds (W5.alloc (.cells oc.toArray 85)) W5.heap.size 85 oc := Holds.new _ _ _
    generalize hXx : W5.alloc (.cells oc.toArray 85) = W6 at *
    rw [hgq] at hN ⊢
    clear hXx
    have hR6 := hid (hR5.out.on hb)
    have hZ6 := hid (hZ5.out.below hb hZ5.out.lt)
    have hB6 := hid (below_up hb hB5.out)
    have hH6 := hid (hH5.out.below hb hH5.out.lt)
    have hO6 := hid (rown_on hO5.out hb)
    have hX6 := hid (hX5.out.below hb hX5.out.lt)
    have hN6 := hid hN
    clear hb hR5 hZ5 hB5 hH5 hO5 hX5 hN
    clear hgq
    refine hK'.out _ _ (by exact hX6.out) (fun hHeld => ?_)
    clear hK' K
    refine wpAnyH_ready (rs := [9]) (by kernel_rfl) (by simp) (AllReadyH.cons rfl (fun K hK => ?_) AllReadyH.nil)
    have hK' := hid hK
    clear hK
    rw [if_pos (by kernel_rfl)]
    simp only [ly1, ly2, ly3]
    have hat := hid (show At W6 W6.heap.size 33 (some ⟨gq, 0, none⟩) 1 oc from ⟨by rw [hO.out.len], .inr ⟨_, rfl, hN6.out.lt, fun j hj => by
      rw [show (⟨gq, 0, none⟩ : Addr).add j = ⟨gq, j, none⟩ from by unfold Addr.add; split <;> simp_all]
      exact (hN6.out.cell j).trans (List.getElem?_eq_getElem hj)⟩⟩)
    have hle := hid (Nat.le_trans hBw hB6.out.size)
    have hOw := hO6.out
    have hRw := hH6.out
    refine wp_appends (.tmp 41) (.tmp 45) 80 85 rfl B io _ 33 48 Try.underlying80 hi0 hz0 hz1 hz2 (by decide) (by decide) A n c (rowOb m) W6.heap.size (some ⟨gq, 0, none⟩) 1 1 oc rfl rfl (by intro h; cases h) (by exact hones.out) (by omega) (by omega) (by exact hO6.out) (by exact hat.out) (by exact hle.out) ?_
    intro A2 c2 W7 hrow hbB hgr
    have hK7 := hid ((KeepO.of hB6.out).trans (KeepO.grown (r := r) hOw hgr))
    have hQ7 := hid ((hB6.out.mono hBw).trans hbB)
    have hH7 := hid (hH6.out.grown hgr (rown_apart hOw hH6.out (by decide)).symm)
    have hZ7 := hid (hZ6.out.grown hgr (rown_apart hOw hZ6.out (by decide)).symm)
    have hX7 := hid (hX6.out.grown hgr (rown_apart hOw hX6.out (by decide)).symm)
    rw [← hsn.out] at hrow
    have hO7 := hid hrow
    clear hOw hRw hrow hbB hgr hat hle
    clear hR6 hZ6 hB6 hH6 hO6 hX6 hN6
    refine hK'.out _ _ (by exact hX7.out) (fun hHeld => ?_)
    clear hK' K
    refine tkn 10 (.pointer (some ⟨r, 0, none⟩)) rfl (by kernel_rfl) (fun _ _ _ h => h) (.inl ⟨by kernel_rfl, fun w _ => by go_simp⟩) hHeld ?_
    simp only [ly, Act.put]
    refine tkn 11 (.pointer (some ⟨r, 1, none⟩)) rfl (by kernel_rfl) (fun _ _ _ h => h) (.inl ⟨by kernel_rfl, fun w _ => by go_simp⟩) hHeld ?_
    simp only [ly, Act.put]
    refine wpAnyH_ready (rs := [12]) (by kernel_rfl) (by simp) (AllReadyH.cons rfl (fun K hK => ?_) AllReadyH.nil)
    have hK' := hid hK
    clear hK
    rw [if_pos (by kernel_rfl)]
    simp only [ly1, ly2, ly3]
    have cg := hH7.out.cO 1 _ rfl
    have fg := hH7.out.frozen 1
    go_simp
    generalize hXy : World.setCell _ _ _ = W8
    have hXx : W7.setCells r 1 [.slice A2 (n + 1) c2] = W8 := hXy
    have hH8 := hid (show Holds W8 r 82 [.int .i64 (most : Int), .slice A2 (n + 1) c2] from by rw [← hXy]; exact Holds.set hH7.out 1 _)
    have hZ8 := hid (holds_far hZ7.out (by have := hrl.out; omega) hXx)
    have hX8 := hid (holds_far hX7.out (by have := hlt6.out; omega) hXx)
    have hO8 := hid (row_far hO7.out (rown_apart hO7.out hH7.out (by decide)) hXx)
    have hK8 := hid (hK7.out.own rfl hXx)
    have hQ8 := hid (below_put hQ7.out hBr hXx)
    clear cg fg hXy hXx
    clear hK7 hQ7 hH7 hZ7 hX7 hO7
    refine hK'.out _ _ (by exact hX8.out) (fun hHeld => ?_)
    clear hK' K
    refine wpAnyH_done (by kernel_rfl) ?_ _
    have hR8 := hid (show RStoreAt W8 B r most (m ++ [(obHash d, d)]) from by
      have hl : (m ++ [(obHash d, d)]).length = n + 1 := by rw [List.length_append, hn'.out]; rfl
      exact ⟨A2, c2, by rw [hl]; exact hH8.out, by rw [hl]; exact hO8.out, hok'.out.add hx'.out, hmm.out.1, by rw [hl]; exact hmm.out.2⟩)
    go_wp2_with (first
      | ((with_reducible refine at_slot (some 49) ?_); refine wpList_load_mid rfl 33 (.tmp 6) rfl g6 0 rfl hc _ (by exact h_all hX8.out) Try.underlying33 rfl (by exact hC2.out) ?_)
      | ((with_reducible refine at_slot none ?_); refine wpList_store_mid rfl 33 (.tmp 4) (.tmp 49) rfl w.heap.size 0 hc.toArray rfl rfl (by exact hZ8.out.there 0 _ (by rw [List.size_toArray, hC.out.len]; decide)) (by exact hC.out.size) (by exact hC.out.one) ?_; generalize hW9 : World.setCells _ _ _ _ = W9; have hZ9 := hid (Holds.over hZ8.out (by rw [hC.out.len]; rfl) hW9); have hQ9 := hid (below_put hQ8.out hBw hW9); have hK9 := hid (hK8.out.far (Nat.le_refl _) hW9); have hR9 := hid (hR8.out.far hZ8.out (by decide) (by have := hrl.out; omega) hW9); clear hW9)
      | fail)
    exact bodyPost_ret (results_ct rfl _ _ w.heap.size 33 _ (0, 0) _ rfl hZ9.out (.int .i64 0) rfl Try.underlying33 rfl (by exact hC.out.size)) rfl ⟨rfl, hR9.out, hQ9.out, hK9.out⟩
  · skip
    have hK' := hid hK
    clear hK
    rw [if_pos (by kernel_rfl)]
    simp only [ly1, ly2, ly3]
    refine wp_buildOne 80 85 (.tmp 44) rfl io _ Try.underlying80 hi0 hz0 oc.toArray rfl (by rw [hz1, List.size_toArray, hO.out.len]) (by rw [List.size_toArray, hO.out.len]; decide) (by rw [List.size_toArray, hO.out.len]; decide) ?_
    obtain ⟨gq, hgq⟩ : ∃ g, W5.heap.size = g := ⟨_, rfl⟩
    have hb : Below W5.heap.size W5 (W5.alloc (.cells oc.toArray 85)) := (Below.refl _ _).alloc (Nat.le_refl _) _
    have hN : Holds (W5.alloc (.cells oc.toArray 85)) W5.heap.size 85 oc := Holds.new _ _ _
    generalize hXx : W5.alloc (.cells oc.toArray 85) = W6 at *
    rw [hgq] at hN ⊢
    clear hXx
    have hR6 := hid (hR5.out.on hb)
    have hZ6 := hid (hZ5.out.below hb hZ5.out.lt)
    have hB6 := hid (below_up hb hB5.out)
    have hH6 := hid (hH5.out.below hb hH5.out.lt)
    have hO6 := hid (rown_on hO5.out hb)
    have hX6 := hid (hX5.out.below hb hX5.out.lt)
    have hN6 := hid hN
    clear hb hR5 hZ5 hB5 hH5 hO5 hX5 hN
    clear hgq
    refine hK'.out _ _ (by exact hX6.out) (fun hHeld => ?_)
    clear hK' K
    refine wpAnyH_ready (rs := [4]) (by kernel_rfl) (by simp) (AllReadyH.cons rfl (fun K hK => ?_) AllReadyH.nil)
    have hK' := hid hK
    clear hK
    rw [if_pos (by kernel_rfl)]
    simp only [ly1, ly2, ly3]
    have cg := hH6.out.cO 1 _ rfl
    go_simp
    clear cg
    refine hK'.out _ _ (by exact hX6.out) (fun hHeld => ?_)
    clear hK' K
    refine wpAnyH_ready (rs := [9]) (by kernel_rfl) (by simp) (AllReadyH.cons rfl (fun K hK => ?_) AllReadyH.nil)
    have hK' := hid hK
    clear hK
    rw [if_pos (by kernel_rfl)]
    simp only [ly1, ly2, ly3]
    have hat := hid (show At W6 W6.heap.size 33 (some ⟨gq, 0, none⟩) 1 oc from ⟨by rw [hO.out.len], .inr ⟨_, rfl, hN6.out.lt, fun j hj => by
      rw [show (⟨gq, 0, none⟩ : Addr).add j = ⟨gq, j, none⟩ from by unfold Addr.add; split <;> simp_all]
      exact (hN6.out.cell j).trans (List.getElem?_eq_getElem hj)⟩⟩)
    have hle := hid (Nat.le_trans hBw hB6.out.size)
    have hOw := hO6.out
    have hRw := hH6.out
    refine wp_appends (.tmp 41) (.tmp 45) 80 85 rfl B io _ 33 48 Try.underlying80 hi0 hz0 hz1 hz2 (by decide) (by decide) A n c (rowOb m) W6.heap.size (some ⟨gq, 0, none⟩) 1 1 oc rfl rfl (by intro h; cases h) (by exact hones.out) (by omega) (by omega) (by exact hO6.out) (by exact hat.out) (by exact hle.out) ?_
    intro A2 c2 W7 hrow hbB hgr
    have hK7 := hid ((KeepO.of hB6.out).trans (KeepO.grown (r := r) hOw hgr))
    have hQ7 := hid ((hB6.out.mono hBw).trans hbB)
    have hH7 := hid (hH6.out.grown hgr (rown_apart hOw hH6.out (by decide)).symm)
    have hZ7 := hid (hZ6.out.grown hgr (rown_apart hOw hZ6.out (by decide)).symm)
    have hX7 := hid (hX6.out.grown hgr (rown_apart hOw hX6.out (by decide)).symm)
    rw [← hsn.out] at hrow
    have hO7 := hid hrow
    clear hOw hRw hrow hbB hgr hat hle
    clear hR6 hZ6 hB6 hH6 hO6 hX6 hN6
    refine hK'.out _ _ (by exact hX7.out) (fun hHeld => ?_)
    clear hK' K
    refine tkn 10 (.pointer (some ⟨r, 0, none⟩)) rfl (by kernel_rfl) (fun _ _ _ h => h) (.inl ⟨by kernel_rfl, fun w _ => by go_simp⟩) hHeld ?_
    simp only [ly, Act.put]
    refine tkn 11 (.pointer (some ⟨r, 1, none⟩)) rfl (by kernel_rfl) (fun _ _ _ h => h) (.inl ⟨by kernel_rfl, fun w _ => by go_simp⟩) hHeld ?_
    simp only [ly, Act.put]
    refine wpAnyH_ready (rs := [12]) (by kernel_rfl) (by simp) (AllReadyH.cons rfl (fun K hK => ?_) AllReadyH.nil)
    have hK' := hid hK
    clear hK
    rw [if_pos (by kernel_rfl)]
    simp only [ly1, ly2, ly3]
    have cg := hH7.out.cO 1 _ rfl
    have fg := hH7.out.frozen 1
    go_simp
    generalize hXy : World.setCell _ _ _ = W8
    have hXx : W7.setCells r 1 [.slice A2 (n + 1) c2] = W8 := hXy
    have hH8 := hid (show Holds W8 r 82 [.int .i64 (most : Int), .slice A2 (n + 1) c2] from by rw [← hXy]; exact Holds.set hH7.out 1 _)
    have hZ8 := hid (holds_far hZ7.out (by have := hrl.out; omega) hXx)
    have hX8 := hid (holds_far hX7.out (by have := hlt6.out; omega) hXx)
    have hO8 := hid (row_far hO7.out (rown_apart hO7.out hH7.out (by decide)) hXx)
    have hK8 := hid (hK7.out.own rfl hXx)
    have hQ8 := hid (below_put hQ7.out hBr hXx)
    clear cg fg hXy hXx
    clear hK7 hQ7 hH7 hZ7 hX7 hO7
    refine hK'.out _ _ (by exact hX8.out) (fun hHeld => ?_)
    clear hK' K
    refine wpAnyH_done (by kernel_rfl) ?_ _
    have hR8 := hid (show RStoreAt W8 B r most (m ++ [(obHash d, d)]) from by
      have hl : (m ++ [(obHash d, d)]).length = n + 1 := by rw [List.length_append, hn'.out]; rfl
      exact ⟨A2, c2, by rw [hl]; exact hH8.out, by rw [hl]; exact hO8.out, hok'.out.add hx'.out, hmm.out.1, by rw [hl]; exact hmm.out.2⟩)
    go_wp2_with (first
      | ((with_reducible refine at_slot (some 49) ?_); refine wpList_load_mid rfl 33 (.tmp 6) rfl g6 0 rfl hc _ (by exact h_all hX8.out) Try.underlying33 rfl (by exact hC2.out) ?_)
      | ((with_reducible refine at_slot none ?_); refine wpList_store_mid rfl 33 (.tmp 4) (.tmp 49) rfl w.heap.size 0 hc.toArray rfl rfl (by exact hZ8.out.there 0 _ (by rw [List.size_toArray, hC.out.len]; decide)) (by exact hC.out.size) (by exact hC.out.one) ?_; generalize hW9 : World.setCells _ _ _ _ = W9; have hZ9 := hid (Holds.over hZ8.out (by rw [hC.out.len]; rfl) hW9); have hQ9 := hid (below_put hQ8.out hBw hW9); have hK9 := hid (hK8.out.far (Nat.le_refl _) hW9); have hR9 := hid (hR8.out.far hZ8.out (by decide) (by have := hrl.out; omega) hW9); clear hW9)
      | fail)
    exact bodyPost_ret (results_ct rfl _ _ w.heap.size 33 _ (0, 0) _ rfl hZ9.out (.int .i64 0) rfl Try.underlying33 rfl (by exact hC.out.size)) rfl ⟨rfl, hR9.out, hQ9.out, hK9.out⟩

theorem rPut_any (B r most : Nat) (hBr : B ≤ r) (m : Obs) (d : ByteArray) (w : World) (hBw : B ≤ w.heap.size) (hR : RStoreAt w B r most m) :
    Calls Try.prog 16 #[.pointer (some ⟨r, 0, none⟩), .string d] w fun e w' => e = .returned (.tuple #[.agg (byteCells (putAns most m d).1).toArray, .int .i64 (putAns most m d).2.1]) ∧ RStoreAt w' B r most (putAns most m d).2.2 ∧ Below B w w' ∧ KeepO r w w' := by
  unfold putAns
  by_cases h1 : 4096 < d.size
  · rw [if_pos h1, ← z32_eq]
    exact rPut_long B r most hBr m d h1 w hBw hR
  · rw [if_neg h1]
    cases h2 : obGet m (obHash d) with
    | some x =>
      rw [Option.isSome_some, if_pos rfl]
      exact rPut_there B r most hBr m d (by omega) x h2 w hBw hR
    | none =>
      rw [Option.isSome_none, if_neg (by decide)]
      by_cases h3 : m.length < most
      · rw [if_pos h3]
        exact rPut_new B r most hBr m d (by omega) h2 h3 w hBw hR
      · rw [if_neg h3, ← z32_eq]
        exact rPut_full B r most hBr m d (by omega) h2 (by obtain ⟨_, _, _, _, _, _, h⟩ := hR; omega) w hBw hR

end Go.Proofs.Ytpjfhbmegabafaa
namespace Go.Proofs.Ytpjfhbmegabafaa
open Go.RowKit
open Go.Lib (strCells strCells_length strCells_oneCell)
attribute [local irreducible] Sha.compress Sha.blocks Sha.sha Sha.pad

set_option maxRecDepth 100000 in
set_option maxHeartbeats 2000000 in
theorem rAdd_long (B r most : Nat) (_ : B ≤ r) (m : Obs) (k : List UInt8) (hk : k.length = 32) (d : ByteArray) (hd : 4096 < d.size) (w : World) (hBw : B ≤ w.heap.size) (hR : RStoreAt w B r most m) : Calls Try.prog 19 #[.pointer (some ⟨r, 0, none⟩), .agg (byteCells k).toArray, .string d] w fun e w' => e = .returned (.int .i64 1100) ∧ RStoreAt w' B r most m ∧ Below B w w' ∧ KeepO r w w' := by
  obtain ⟨kc, hkc⟩ : ∃ c, byteCells k = c := ⟨_, rfl⟩
  have hKC := hid (show HashCells kc from by rw [← hkc]; exact hash_cells k hk)
  have hKC2 := hid (show (Try.prog.info? 33).map (·.size) = some kc.length from by have := hKC.out.size; rwa [List.size_toArray] at this)
  have hk32 := hid hk
  have hkc' := hid hkc
  rw [hkc]
  have hi : decide ((4096 : Int) < (d.size : Int)) = true := decide_eq_true (by omega)
  have hin : 4096 < d.size := hd
  obtain ⟨W0, hW0⟩ : ∃ W0, w.alloc (.cells kc.toArray 33) = W0 := ⟨_, rfl⟩
  have hb0 : Below w.heap.size w W0 := by rw [← hW0]; exact (Below.refl _ _).alloc (Nat.le_refl _) _
  have hR0 := hid (hR.on hb0)
  have hK0 := hid (show Holds W0 w.heap.size 33 kc from by rw [← hW0]; exact Holds.new w 33 kc.toArray)
  have hB0 := hid hb0
  have hW0' := hid hW0
  clear hW0 hb0 hR hkc hk hd
  go_enter Try.func19, Try.ntmps19
  go_wp2_with (first
    | ((with_reducible refine at_slot (some 4) ?_); refine wpList_run rfl (.pointer (some ⟨w.heap.size, 0, none⟩)) (w.alloc (.cells kc.toArray 33)) (by kernel_rfl) ?_; rw [hW0'.out])
    | fail)
  have hb : Below W0.heap.size W0 W0.drew := (Below.refl _ _).drew
  have hR1 := hid (hR0.out.on hb)
  have hK1 := hid (hK0.out.below hb hK0.out.lt)
  have hB1 := hid (below_up hb hB0.out)
  clear hb hR0 hK0 hB0
  refine wp_region_held_drew (S := fun V => Holds V w.heap.size 33 kc) (by kernel_rfl) (by exact hK1.out) (fun hHeld => ?_)
  generalize W0.drew = W1 at *
  refine tkn 0 (.string d) rfl (by kernel_rfl) (fun _ _ _ h => h) (yieldsIf_move _ rfl rfl rfl) hHeld ?_
  simp only [ly, Act.put]
  refine tkn 1 (.int .i64 (d.size : Int)) rfl (by kernel_rfl) (fun _ _ _ h => h) (.inl ⟨by kernel_rfl, fun w _ => by go_simp⟩) hHeld ?_
  simp only [ly, Act.put]
  refine tkn 2 (.bool true) rfl (by kernel_rfl) (fun _ _ _ h => h) (.inl ⟨by kernel_rfl, fun w _ => by go_simp⟩) hHeld ?_
  simp only [ly, Act.put]
  refine tkn 3 (.bool true) rfl (by kernel_rfl) (fun _ _ _ h => h) (yieldsIf_move _ rfl rfl rfl) hHeld ?_
  simp only [ly, Act.put]
  refine tkn 4 undef rfl (by kernel_rfl) (fun _ _ _ h => h) (.inr ⟨by kernel_rfl, rfl⟩) hHeld ?_
  simp only [ly, Act.put]
  refine tkn 5 undef rfl (by kernel_rfl) (fun _ _ _ h => h) (.inr ⟨by kernel_rfl, rfl⟩) hHeld ?_
  simp only [ly, Act.put]
  refine tkn 6 undef rfl (by kernel_rfl) (fun _ _ _ h => h) (.inr ⟨by kernel_rfl, rfl⟩) hHeld ?_
  simp only [ly, Act.put]
  refine tkn 7 undef rfl (by kernel_rfl) (fun _ _ _ h => h) (.inr ⟨by kernel_rfl, rfl⟩) hHeld ?_
  simp only [ly, Act.put]
  refine tkn 8 (.bool true) rfl (by kernel_rfl) (fun _ _ _ h => h) (yieldsIf_pick _ _ _ rfl rfl rfl rfl) hHeld ?_
  simp only [ly, Act.put]
  refine wpAnyH_done (by kernel_rfl) ?_ _
  go_wp2_with fail
  go_ret
  exact ⟨rfl, hR1.out, hB1.out.mono hBw, KeepO.of hB1.out⟩

set_option maxRecDepth 100000 in
set_option maxHeartbeats 2000000 in
theorem rAdd_other (B r most : Nat) (_ : B ≤ r) (m : Obs) (k : List UInt8) (hk : k.length = 32) (d : ByteArray) (hd : d.size ≤ 4096) (hkd : obHash d ≠ k) (w : World) (hBw : B ≤ w.heap.size) (hR : RStoreAt w B r most m) : Calls Try.prog 19 #[.pointer (some ⟨r, 0, none⟩), .agg (byteCells k).toArray, .string d] w fun e w' => e = .returned (.int .i64 1100) ∧ RStoreAt w' B r most m ∧ Below B w w' ∧ KeepO r w w' := by
  obtain ⟨kc, hkc⟩ : ∃ c, byteCells k = c := ⟨_, rfl⟩
  have hKC := hid (show HashCells kc from by rw [← hkc]; exact hash_cells k hk)
  have hKC2 := hid (show (Try.prog.info? 33).map (·.size) = some kc.length from by have := hKC.out.size; rwa [List.size_toArray] at this)
  have hk32 := hid hk
  have hkc' := hid hkc
  rw [hkc]
  have hi : decide ((4096 : Int) < (d.size : Int)) = false := decide_eq_false (by omega)
  have hin : d.size ≤ 4096 := hd
  have hOb := hid (fun W => rObject_any d (by omega) W)
  have hoa : objAns d = obHash d := if_pos (by omega)
  rw [hoa] at hOb
  have hl32 := hid (obHash_len d)
  have heq := hid (show (obHash d == k) = false from beq_eq_false_iff_ne.2 hkd)
  obtain ⟨W0, hW0⟩ : ∃ W0, w.alloc (.cells kc.toArray 33) = W0 := ⟨_, rfl⟩
  have hb0 : Below w.heap.size w W0 := by rw [← hW0]; exact (Below.refl _ _).alloc (Nat.le_refl _) _
  have hR0 := hid (hR.on hb0)
  have hK0 := hid (show Holds W0 w.heap.size 33 kc from by rw [← hW0]; exact Holds.new w 33 kc.toArray)
  have hB0 := hid hb0
  have hW0' := hid hW0
  clear hW0 hb0 hR hkc hk hd hkd hoa
  go_enter Try.func19, Try.ntmps19
  go_wp2_with (first
    | ((with_reducible refine at_slot (some 4) ?_); refine wpList_run rfl (.pointer (some ⟨w.heap.size, 0, none⟩)) (w.alloc (.cells kc.toArray 33)) (by kernel_rfl) ?_; rw [hW0'.out])
    | fail)
  have hb : Below W0.heap.size W0 W0.drew := (Below.refl _ _).drew
  have hR1 := hid (hR0.out.on hb)
  have hK1 := hid (hK0.out.below hb hK0.out.lt)
  have hB1 := hid (below_up hb hB0.out)
  clear hb hR0 hK0 hB0
  refine wp_region_held_drew (S := fun V => Holds V w.heap.size 33 kc) (by kernel_rfl) (by exact hK1.out) (fun hHeld => ?_)
  generalize W0.drew = W1 at *
  refine tkn 0 (.string d) rfl (by kernel_rfl) (fun _ _ _ h => h) (yieldsIf_move _ rfl rfl rfl) hHeld ?_
  simp only [ly, Act.put]
  refine tkn 1 (.int .i64 (d.size : Int)) rfl (by kernel_rfl) (fun _ _ _ h => h) (.inl ⟨by kernel_rfl, fun w _ => by go_simp⟩) hHeld ?_
  simp only [ly, Act.put]
  refine tkn 2 (.bool false) rfl (by kernel_rfl) (fun _ _ _ h => h) (.inl ⟨by kernel_rfl, fun w _ => by go_simp⟩) hHeld ?_
  simp only [ly, Act.put]
  refine tkn 3 (.bool false) rfl (by kernel_rfl) (fun _ _ _ h => h) (yieldsIf_move _ rfl rfl rfl) hHeld ?_
  simp only [ly, Act.put]
  refine tkn 4 (.string d) rfl (by kernel_rfl) (fun _ _ _ h => h) (.inl ⟨by kernel_rfl, fun w _ => by go_simp⟩) hHeld ?_
  simp only [ly, Act.put]
  refine tkn 6 (.agg kc.toArray) rfl (by kernel_rfl) (fun _ _ _ h => h) (yieldsIf_load_any (by kernel_rfl) _ _ rfl ⟨w.heap.size, 0, none⟩ rfl kc _ (fun V hS => (show Holds V w.heap.size 33 kc from hS).anyO) Try.underlying33 rfl (by exact hKC2.out)) hHeld ?_
  simp only [ly, Act.put]
  refine wpAnyH_ready (rs := [5]) (by kernel_rfl) (by simp) (AllReadyH.cons rfl (fun K hK => ?_) AllReadyH.nil)
  have hK' := hid hK
  clear hK
  rw [if_pos (by kernel_rfl)]
  simp only [ly1, ly2, ly3]
  go_simp
  refine (hOb.out _).mono ?_
  rintro e W2 ⟨rfl, hb⟩
  have hR2 := hid (hR1.out.on hb)
  have hK2 := hid (hK1.out.below hb hK1.out.lt)
  have hB2 := hid (below_up hb hB1.out)
  clear hb hR1 hK1 hB1
  refine hK'.out _ _ (by exact hK2.out) (fun hHeld => ?_)
  clear hK' K
  refine tkn 7 (.bool (!false)) rfl (by kernel_rfl) (fun _ _ _ h => h) (yieldsIf_zneq (by kernel_rfl) (.tmp 14) (.tmp 15) _ rfl (obHash d) k (by exact hl32.out) (by exact hk32.out) false (by exact heq.out) rfl (by rw [hkc'.out]; rfl)) hHeld ?_
  simp only [ly, Act.put]
  refine tkn 8 (.bool (!false)) rfl (by kernel_rfl) (fun _ _ _ h => h) (yieldsIf_pick _ _ _ rfl rfl rfl rfl) hHeld ?_
  simp only [ly, Act.put]
  refine wpAnyH_done (by kernel_rfl) ?_ _
  go_wp2_with fail
  go_ret
  exact ⟨rfl, hR2.out, hB2.out.mono hBw, KeepO.of hB2.out⟩

set_option maxRecDepth 100000 in
set_option maxHeartbeats 2000000 in
theorem rAdd_own (B r most : Nat) (hBr : B ≤ r) (m : Obs) (k : List UInt8) (hk : k.length = 32) (d : ByteArray) (hd : d.size ≤ 4096) (hkd : obHash d = k) (w : World) (hBw : B ≤ w.heap.size) (hR : RStoreAt w B r most m) : Calls Try.prog 19 #[.pointer (some ⟨r, 0, none⟩), .agg (byteCells k).toArray, .string d] w fun e w' => e = .returned (.int .i64 (putAns most m d).2.1) ∧ RStoreAt w' B r most (putAns most m d).2.2 ∧ Below B w w' ∧ KeepO r w w' := by
  obtain ⟨kc, hkc⟩ : ∃ c, byteCells k = c := ⟨_, rfl⟩
  have hKC := hid (show HashCells kc from by rw [← hkc]; exact hash_cells k hk)
  have hKC2 := hid (show (Try.prog.info? 33).map (·.size) = some kc.length from by have := hKC.out.size; rwa [List.size_toArray] at this)
  have hk32 := hid hk
  have hkc' := hid hkc
  rw [hkc]
  have hi : decide ((4096 : Int) < (d.size : Int)) = false := decide_eq_false (by omega)
  have hin : d.size ≤ 4096 := hd
  have hOb := hid (fun W => rObject_any d (by omega) W)
  have hoa : objAns d = obHash d := if_pos (by omega)
  rw [hoa] at hOb
  have hl32 := hid (obHash_len d)
  have heq := hid (show (obHash d == k) = true from beq_iff_eq.2 hkd)
  have hPu := hid (fun V (h : RStoreAt V B r most m) (hB : B ≤ V.heap.size) => rPut_any B r most hBr m d V hB h)
  have hp32 := putAns_len most m d
  obtain ⟨pc, hpc⟩ : ∃ c, byteCells (putAns most m d).1 = c := ⟨_, rfl⟩
  have hPC := hid (show HashCells pc from by rw [← hpc]; exact hash_cells _ hp32)
  rw [hpc] at hPu
  obtain ⟨pe, hpe⟩ : ∃ x, (putAns most m d).2.1 = x := ⟨_, rfl⟩
  obtain ⟨pm, hpm⟩ : ∃ x, (putAns most m d).2.2 = x := ⟨_, rfl⟩
  rw [hpe, hpm] at hPu ⊢
  obtain ⟨W0, hW0⟩ : ∃ W0, w.alloc (.cells kc.toArray 33) = W0 := ⟨_, rfl⟩
  have hb0 : Below w.heap.size w W0 := by rw [← hW0]; exact (Below.refl _ _).alloc (Nat.le_refl _) _
  have hR0 := hid (hR.on hb0)
  have hK0 := hid (show Holds W0 w.heap.size 33 kc from by rw [← hW0]; exact Holds.new w 33 kc.toArray)
  have hB0 := hid hb0
  have hW0' := hid hW0
  clear hW0 hb0 hR hkc hk hd hkd hoa hpc hpe hpm hp32
  go_enter Try.func19, Try.ntmps19
  go_wp2_with (first
    | ((with_reducible refine at_slot (some 4) ?_); refine wpList_run rfl (.pointer (some ⟨w.heap.size, 0, none⟩)) (w.alloc (.cells kc.toArray 33)) (by kernel_rfl) ?_; rw [hW0'.out])
    | fail)
  have hb : Below W0.heap.size W0 W0.drew := (Below.refl _ _).drew
  have hR1 := hid (hR0.out.on hb)
  have hK1 := hid (hK0.out.below hb hK0.out.lt)
  have hB1 := hid (below_up hb hB0.out)
  clear hb hR0 hK0 hB0
  refine wp_region_held_drew (S := fun V => Holds V w.heap.size 33 kc) (by kernel_rfl) (by exact hK1.out) (fun hHeld => ?_)
  generalize W0.drew = W1 at *
  refine tkn 0 (.string d) rfl (by kernel_rfl) (fun _ _ _ h => h) (yieldsIf_move _ rfl rfl rfl) hHeld ?_
  simp only [ly, Act.put]
  refine tkn 1 (.int .i64 (d.size : Int)) rfl (by kernel_rfl) (fun _ _ _ h => h) (.inl ⟨by kernel_rfl, fun w _ => by go_simp⟩) hHeld ?_
  simp only [ly, Act.put]
  refine tkn 2 (.bool false) rfl (by kernel_rfl) (fun _ _ _ h => h) (.inl ⟨by kernel_rfl, fun w _ => by go_simp⟩) hHeld ?_
  simp only [ly, Act.put]
  refine tkn 3 (.bool false) rfl (by kernel_rfl) (fun _ _ _ h => h) (yieldsIf_move _ rfl rfl rfl) hHeld ?_
  simp only [ly, Act.put]
  refine tkn 4 (.string d) rfl (by kernel_rfl) (fun _ _ _ h => h) (.inl ⟨by kernel_rfl, fun w _ => by go_simp⟩) hHeld ?_
  simp only [ly, Act.put]
  refine tkn 6 (.agg kc.toArray) rfl (by kernel_rfl) (fun _ _ _ h => h) (yieldsIf_load_any (by kernel_rfl) _ _ rfl ⟨w.heap.size, 0, none⟩ rfl kc _ (fun V hS => (show Holds V w.heap.size 33 kc from hS).anyO) Try.underlying33 rfl (by exact hKC2.out)) hHeld ?_
  simp only [ly, Act.put]
  refine wpAnyH_ready (rs := [5]) (by kernel_rfl) (by simp) (AllReadyH.cons rfl (fun K hK => ?_) AllReadyH.nil)
  have hK' := hid hK
  clear hK
  rw [if_pos (by kernel_rfl)]
  simp only [ly1, ly2, ly3]
  go_simp
  refine (hOb.out _).mono ?_
  rintro e W2 ⟨rfl, hb⟩
  have hR2 := hid (hR1.out.on hb)
  have hK2 := hid (hK1.out.below hb hK1.out.lt)
  have hB2 := hid (below_up hb hB1.out)
  clear hb hR1 hK1 hB1
  refine hK'.out _ _ (by exact hK2.out) (fun hHeld => ?_)
  clear hK' K
  refine tkn 7 (.bool (!true)) rfl (by kernel_rfl) (fun _ _ _ h => h) (yieldsIf_zneq (by kernel_rfl) (.tmp 14) (.tmp 15) _ rfl (obHash d) k (by exact hl32.out) (by exact hk32.out) true (by exact heq.out) rfl (by rw [hkc'.out]; rfl)) hHeld ?_
  simp only [ly, Act.put]
  refine tkn 8 (.bool (!true)) rfl (by kernel_rfl) (fun _ _ _ h => h) (yieldsIf_pick _ _ _ rfl rfl rfl rfl) hHeld ?_
  simp only [ly, Act.put]
  refine wpAnyH_done (by kernel_rfl) ?_ _
  go_wp2_with fail
  refine (hPu.out _ hR2.out (Nat.le_trans hBw hB2.out.size)).mono ?_
  rintro e W3 ⟨rfl, hr, hbB, hkp⟩
  have hR3 := hid hr
  have hQ3 := hid ((hB2.out.mono hBw).trans hbB)
  have hP3 := hid ((KeepO.of hB2.out).trans hkp)
  have hle := hid (Nat.le_trans hB2.out.size hbB.size)
  clear hr hbB hkp hR2 hK2 hB2
  try (rename_i hKK; refine hKK _ _ ?_; clear hKK)
  go_wp2_with (first
    | ((with_reducible refine at_slot (some 7) ?_); refine wpList_run rfl (.pointer (some ⟨W3.heap.size, 0, none⟩)) (W3.alloc (.cells z32 33)) (by kernel_rfl) ?_)
    | ((with_reducible refine at_slot none ?_); refine wpList_store_mid rfl 33 (.tmp 7) (.tmp 22) rfl W3.heap.size 0 pc.toArray rfl rfl (by exact hPC.out.there W3) (by exact hPC.out.size) (by exact hPC.out.one) ?_; generalize hW : World.setCells _ _ _ _ = W9; have hb : Below W3.heap.size W3 W9 := below_put ((Below.refl _ _).alloc (Nat.le_refl _) _) (Nat.le_refl _) hW; have hR9 := hid (hR3.out.on hb); have hQ9 := hid (hQ3.out.trans (hb.mono (Nat.le_trans hBw hle.out))); have hP9 := hid (hP3.out.trans (KeepO.of hb)); clear hb hW)
    | fail)
  go_ret
  exact ⟨rfl, hR9.out, hQ9.out, hP9.out⟩

theorem rAdd_any (B r most : Nat) (hBr : B ≤ r) (m : Obs) (k : List UInt8) (hk : k.length = 32) (d : ByteArray) (w : World) (hBw : B ≤ w.heap.size) (hR : RStoreAt w B r most m) :
    Calls Try.prog 19 #[.pointer (some ⟨r, 0, none⟩), .agg (byteCells k).toArray, .string d] w fun e w' => e = .returned (.int .i64 (addAns most m k d).1) ∧ RStoreAt w' B r most (addAns most m k d).2 ∧ Below B w w' ∧ KeepO r w w' := by
  unfold addAns
  by_cases h1 : 4096 < d.size
  · rw [if_pos (.inl h1)]
    exact rAdd_long B r most hBr m k hk d h1 w hBw hR
  · by_cases h0 : obHash d = k
    · rw [if_neg (fun h => h.elim h1 (fun h => h h0))]
      exact rAdd_own B r most hBr m k hk d (by omega) h0 w hBw hR
    · rw [if_pos (.inr h0)]
      exact rAdd_other B r most hBr m k hk d (by omega) h0 w hBw hR

end Go.Proofs.Ytpjfhbmegabafaa
