/- Layer 12, the program's side: a hash put to others. -/
import Derived.Test.YtpjfhbmegabafaaLFtGa
import Derived.Test.YtpjfhbmegabafaaLFtX
namespace Go.Proofs.Ytpjfhbmegabafaa
open Go.RowKit
open Go.Maps (Keyed)
attribute [local irreducible] Sha.compress Sha.blocks Sha.sha Sha.pad

def hk0 (h : List UInt8) : List UInt8 × ByteArray := (h, ⟨#[]⟩)
theorem hk0_len {hs : List (List UInt8)} (h : ∀ x ∈ hs, x.length = 32) : ∀ p ∈ hs.map hk0, p.1.length = 32 := fun p hp => by
  obtain ⟨x, hx, rfl⟩ := List.mem_map.1 hp
  exact h x hx
theorem hk0_no {hs : List (List UInt8)} {k : List UInt8} (h : k ∉ hs) : ∀ p ∈ hs.map hk0, p.1 ≠ k := fun p hp e => by
  obtain ⟨x, hx, rfl⟩ := List.mem_map.1 hp
  exact h (e ▸ hx)
open Classical in
/-- A hash put to others, if it is none of them. -/
noncomputable def addH (xs : List (List UInt8)) (x : List UInt8) : List (List UInt8) := if x ∈ xs then xs else xs ++ [x]
theorem addH_old {xs : List (List UInt8)} {x : List UInt8} (h : x ∈ xs) : addH xs x = xs := if_pos h
theorem addH_new {xs : List (List UInt8)} {x : List UInt8} (h : x ∉ xs) : addH xs x = xs ++ [x] := if_neg h
/-- A row of unlike hashes. -/
structure HhRow (w : World) (r B : Nat) (M : Option Nat) (A : Option Addr) (c : Nat) (hs : List (List UInt8)) : Prop where
  cell : Holds w r 170 [.map M, .slice A hs.length c]
  map : (M = none ∧ hs = []) ∨ ∃ mb, M = some mb ∧ MapAt w mb (hkPairs (hs.map hk0))
  row : w.ownsRow B 33 32 (.slice A hs.length c) hs.length (hashCells hs)
  len : ∀ x ∈ hs, x.length = 32
structure HhPut (w w' : World) (r B : Nat) (M : Option Nat) (A : Option Addr) (c : Nat) (hs : List (List UInt8)) (k : List UInt8) (M' : Option Nat) (A' : Option Addr) (c' : Nat) : Prop where
  row : HhRow w' r B M' A' c' (addH hs k)
  turn : TurnS (fun q => q = r ∨ TOwn M A hs.length c q) w w'
  fresh : ∀ q, TOwn M' A' (addH hs k).length c' q → TOwn M A hs.length c q ∨ w.heap.size ≤ q
theorem HhRow.old {w w' : World} {r B c : Nat} {M : Option Nat} {A : Option Addr} {hs : List (List UInt8)} {k : List UInt8} (h : HhRow w' r B M A c hs) (hb : Below w.heap.size w w') (hx : k ∈ hs) : HhPut w w' r B M A c hs k M A c := by
  refine ⟨?_, TurnS.of_below hb, ?_⟩
  · rw [addH_old hx]; exact h
  · rw [addH_old hx]; exact fun k hk => .inl hk
theorem HhRow.look {w : World} {r B c : Nat} {M : Option Nat} {A : Option Addr} {hs : List (List UInt8)} (h : HhRow w r B M A c hs) (k : List UInt8) (hk : k.length = 32) :
    (∃ (i : Nat), k ∈ hs ∧ (Instr.lookup 140 (.map M) (.agg (byteCells k).toArray) true).run Try.prog w = .ok (.tuple #[.int .i64 (i : Int), .bool true]) w) ∨ (k ∉ hs ∧ (Instr.lookup 140 (.map M) (.agg (byteCells k).toArray) true).run Try.prog w = .ok (.tuple #[.int .i64 0, .bool false]) w) := by
  obtain ⟨kl, hkey⟩ := hash_key k hk
  rcases h.map with ⟨rfl, rfl⟩ | ⟨mb, rfl, hm⟩
  · rcases hash_keyed.find w hkey [] (by simp) with ⟨h1, _⟩ | ⟨j, e0, _, h2, _⟩
    · exact .inr ⟨by simp, by simp [Instr.lookup, run_underlying Try.underlying140, hash_keyed.check w _ hkey, h1, Result.andThen]⟩
    · simp at h2
  · rcases hm.look (P := Try.prog) true hash_keyed (hkPairs_keys (hs.map hk0) (hk0_len h.len)) Try.underlying140 (intZero w) hkey with ⟨h1, h2⟩ | ⟨v, h1, h2⟩
    · exact .inr ⟨fun hx => hkPairs_miss h2 (hk0 k) (List.mem_map.2 ⟨k, hx, rfl⟩) rfl, h1⟩
    · obtain ⟨i, x, hi, rfl⟩ := hkPairs_hit h2
      obtain ⟨y, hy, e⟩ := List.mem_map.1 (List.mem_of_getElem? hi)
      exact .inl ⟨i, (show y = k from congrArg Prod.fst e) ▸ hy, h1⟩
theorem hhput_end {w W0 W1 W2 W3 : World} {r B c mb : Nat} {M : Option Nat} {A A2 : Option Addr} {c2 : Nat} {hs : List (List UInt8)} {k : List UInt8} (hln : ∀ p ∈ hs, p.length = 32) (hx : k ∉ hs) (hk : k.length = 32) (hmr : mb ≠ r) (hmo : M = some mb ∨ w.heap.size ≤ mb)
    (h0 : Holds W0 r 170 [.map (some mb), .slice A hs.length c]) (hT0 : TurnS (fun k => k = r) w W0) (hM1 : MapAt W1 mb (hkPairs (hs.map hk0) ++ [(.agg (byteCells k).toArray, .int .i64 (hs.length : Int))])) (hg1 : W0.grownBy W1 (some mb))
    (hrow1 : W1.ownsRow B 33 32 (.slice A hs.length c) hs.length (hashCells hs)) (hrow : W2.ownsRow B 33 32 (.slice A2 (hs.length + 1) c2) (hs.length + 1) (hashCells hs ++ byteCells k)) (hg2 : W1.grownBy W2 (Value.slice A hs.length c).ownBlock) (hF : Fresh W1 (Value.slice A hs.length c).ownBlock (Value.slice A2 (hs.length + 1) c2).ownBlock)
    (e : W2.setCell ⟨r, 1, none⟩ (.slice A2 (hs.length + 1) c2) = W3) : HhPut w W3 r B M A c hs k (some mb) A2 c2 := by
  have h1 : Holds W1 r 170 [.map (some mb), .slice A hs.length c] := h0.grown hg1 (fun e => hmr (Option.some.inj e).symm)
  have hne : ∀ k, (Value.slice A hs.length c).ownBlock = some k → k ≠ r := fun k e => own_neF hrow1 e h1 (by decide)
  have h2 : Holds W2 r 170 [.map (some mb), .slice A hs.length c] := h1.grown hg2 (fun e => hne r e.symm rfl)
  have hmn : (Value.slice A hs.length c).ownBlock ≠ some mb := fun e => by
    obtain ⟨es, cl, hb, _⟩ := hM1
    obtain ⟨cs, _, _, h3⟩ := own_cells hrow1 e
    rw [hb] at h3
    cases h3
  have hmb2 := hM1.block (hg2.block mb hM1.lt (fun e => hmn e.symm))
  have hne2 : ∀ k, (Value.slice A2 (hs.length + 1) c2).ownBlock = some k → k ≠ r := fun k e => own_neF hrow e h2 (by decide)
  subst e
  refine ⟨?_, ⟨hg2.os.trans (hg1.os.trans hT0.os), hg2.tape.trans (hg1.tape.trans hT0.tape), hg2.output.trans (hg1.output.trans hT0.output), by rw [World.size_setCell]; exact Nat.le_trans hT0.size (Nat.le_trans hg1.size hg2.size), fun k hk hq => ?_⟩, fun k hk => ?_⟩
  · rw [addH_new hx]
    refine ⟨?_, .inr ⟨mb, rfl, ?_⟩, ?_, fun y hy => ?_⟩
    · rw [List.length_append]
      exact h2.set 1 _
    · rw [List.map_append, List.map_cons, List.map_nil, show hk0 k = (k, ⟨#[]⟩) from rfl, hkPairs_more, List.length_map]
      exact hmb2.far ⟨r, 1, none⟩ hmr _
    · rw [List.length_append, hashCells_append, hashCells_one]
      exact rown_block hrow fun k hk => heap_setCell_other _ _ _ _ (hne2 k hk)
    · rcases List.mem_append.1 hy with h3 | h3
      · exact hln y h3
      · rw [List.mem_singleton.1 h3]; exact hk
  · refine (heap_setCell_other _ _ _ _ (fun e => hq (.inl e))).trans ?_
    refine (hg2.block k (Nat.lt_of_lt_of_le hk (Nat.le_trans hT0.size hg1.size)) (fun e => hq (.inr (.inr e.symm)))).trans ?_
    refine (hg1.block k (Nat.lt_of_lt_of_le hk hT0.size) (fun e => ?_)).trans (hT0.block k hk (fun e => hq (.inl e)))
    have e2 := Option.some.inj e
    rcases hmo with h3 | h3
    · exact hq (.inr (.inl (by rw [h3, e2])))
    · omega
  · rw [addH_new hx, List.length_append] at hk
    rcases hk with h3 | h3
    · have e2 := Option.some.inj h3
      exact hmo.imp (fun h4 => .inl (by rw [h4, e2])) (fun h4 => by omega)
    · rcases hF with e2 | ⟨q, e2, hq⟩
      · exact .inl (.inr (by rw [← e2]; exact h3))
      · have e3 : some q = some k := e2.symm.trans h3
        exact .inr (by have := Option.some.inj e3; have := hT0.size; have := hg1.size; omega)

set_option maxRecDepth 100000 in
set_option maxHeartbeats 1000000 in
theorem hhPut_any (r B : Nat) (M : Option Nat) (A : Option Addr) (c : Nat) (hs : List (List UInt8)) (k : List UInt8) (hk : k.length = 32) (hn : hs.length ≤ 100000) (w : World) (h : HhRow w r B M A c hs) (hB : B ≤ w.heap.size) :
    Calls Try.prog 91 #[.pointer (some ⟨r, 0, none⟩), .agg (byteCells k).toArray, .agg (byteCells k).toArray] w fun e w' => (∃ v, e = .returned v) ∧ ∃ M' A' c', HhPut w w' r B M A c hs k M' A' c' := by
  have hC := hid (hash_cells k hk)
  obtain ⟨Wa, hWa⟩ : ∃ V, w.alloc (.cells (byteCells k).toArray 33) = V := ⟨_, rfl⟩
  have hba : Below w.heap.size w Wa := by rw [← hWa]; exact (Below.refl _ _).alloc (Nat.le_refl _) _
  have hsa : Wa.heap.size = w.heap.size + 1 := by rw [← hWa, World.size_alloc]
  have hXa : Holds Wa w.heap.size 33 (byteCells k) := by rw [← hWa]; exact Holds.new w _ (byteCells k).toArray
  obtain ⟨W0, hW0⟩ : ∃ V, Wa.alloc (.cells (byteCells k).toArray 33) = V := ⟨_, rfl⟩
  have hb0 : Below w.heap.size w W0 := by rw [← hW0]; exact hba.alloc hba.size _
  have hX := hid (show Holds W0 w.heap.size 33 (byteCells k) from by rw [← hW0]; exact hXa.alloc _)
  have hY := hid (show Holds W0 (w.heap.size + 1) 33 (byteCells k) from by rw [← hW0, ← hsa]; exact Holds.new Wa _ (byteCells k).toArray)
  have hR : HhRow W0 r B M A c hs := ⟨h.cell.below hb0 h.cell.lt, h.map.imp id (fun ⟨mb, e, hm⟩ => ⟨mb, e, hm.on hb0⟩), rown_onF h.row hb0, h.len⟩
  have hRd : HhRow W0.drew r B M A c hs := ⟨hR.cell, hR.map, rown_onF hR.row ((Below.refl W0.heap.size W0).drew), hR.len⟩
  have hlk0 := hRd.look k hk
  have hR2 := hid hRd
  have hW0' := hid hW0
  have hWa' := hid hWa
  have hn' := hid hn
  have hk' := hid hk
  have hB' := hid hB
  have hln := hid h.len
  have hrl := hid h.cell.lt
  have hlow := hid (fun q (e : (Value.slice A hs.length c).ownBlock = some q) => (h.row.lt q e).2)
  have hL := hid (show Holds W0.drew r 170 [.map M, .slice A hs.length c] from hR.cell)
  have hXd := hid (show Holds W0.drew w.heap.size 33 (byteCells k) from hX.out)
  have hYd := hid (show Holds W0.drew (w.heap.size + 1) 33 (byteCells k) from hY.out)
  have hbf := hid (show Below w.heap.size w W0.drew from hb0.trans ((Below.refl w.heap.size W0).drew))
  have hsz := hid (show W0.drew.heap.size = w.heap.size + 2 from by show W0.heap.size = _; rw [← hW0, World.size_alloc, hsa])
  have hml := hid (fun mb (e : M = some mb) => show mb < w.heap.size from by
    rcases h.map with ⟨e2, _⟩ | ⟨mb', e2, hm⟩
    · rw [e2] at e; cases e
    · rw [e2] at e; rw [← Option.some.inj e]; exact hm.lt)
  obtain ⟨g, hg⟩ : ∃ g, w.heap.size = g := ⟨_, rfl⟩
  obtain ⟨g2, hg2⟩ : ∃ g2, g + 1 = g2 := ⟨_, rfl⟩
  have hg' := hid hg
  have hg2' := hid (show Wa.heap.size = g2 from by omega)
  have hgg2 := hid hg2
  have hgr2 := hid (show r < g2 from by have := hrl.out; omega)
  rw [hg] at hX hXd hY hYd
  rw [hg2] at hY hYd
  clear hb0 hW0 hWa hba hsa hXa hR hRd h hn hk hB hg hg2
  rcases hlk0 with ⟨i, hi, hlk⟩ | ⟨hno, hlk⟩
  · have hold := hid hi
    clear hi
    go_enter Try.func91, Try.ntmps91
    go_wp2_with (first
      | ((with_reducible refine at_slot (some 4) ?_); refine wpList_run rfl (.pointer (some ⟨g, 0, none⟩)) (w.alloc (.cells (byteCells k).toArray 33)) (by rw [← hg'.out]; kernel_rfl) ?_; rw [hWa'.out])
      | ((with_reducible refine at_slot (some 5) ?_); refine wpList_run rfl (.pointer (some ⟨g2, 0, none⟩)) (Wa.alloc (.cells (byteCells k).toArray 33)) (by rw [← hg2'.out]; kernel_rfl) ?_; rw [hW0'.out])
      | fail)
    have c0 := hL.out.cO 0 _ rfl
    refine wp_region_held_drew (S := fun V => V.cell? ⟨r, 0, none⟩ = some (.map M) ∧ Holds V g 33 (byteCells k) ∧ (Instr.lookup 140 (.map M) (.agg (byteCells k).toArray) true).run Try.prog V = .ok (.tuple #[.int .i64 (i : Int), .bool true]) V) (by kernel_rfl) ⟨c0, hXd.out, hlk⟩ (fun hHeld => ?_)
    clear c0 hlk
    generalize W0.drew = Wd at *
    refine tkx 0 (.pointer (some ⟨r, 0, none⟩)) hHeld ?_; simp only [ly, Act.put]
    refine tkx 1 (.pointer (some ⟨r, 0, none⟩)) hHeld ?_; simp only [ly, Act.put]
    refine tkx 2 (.pointer (some ⟨r, 0, none⟩)) hHeld ?_; simp only [ly, Act.put]
    refine tkx 3 (.map M) hHeld ?_ (hy := .inl ⟨by kernel_rfl, fun V hS => by have c1 := hS.1; go_simp⟩); simp only [ly, Act.put]
    refine tkx 4 (.agg (byteCells k).toArray) hHeld ?_ (hy := yieldsIf_load_any (by kernel_rfl) _ _ rfl ⟨g, 0, none⟩ rfl (byteCells k) _ (fun V hS => hS.2.1.anyO) Try.underlying33 rfl (by exact hC.out.size')); simp only [ly, Act.put]
    refine tkx 5 (.tuple #[.int .i64 (i : Int), .bool true]) hHeld ?_ (hy := yieldsIf_lookup 140 (.tmp 13) (.tmp 14) true rfl rfl rfl rfl (fun V hS => hS.2.2)); simp only [ly, Act.put]
    refine tkx 6 (.tuple #[.int .i64 (i : Int), .bool true]) hHeld ?_; simp only [ly, Act.put]
    refine tkx 7 (.int .i64 (i : Int)) hHeld ?_; simp only [ly, Act.put]
    refine tkx 8 (.bool true) hHeld ?_; simp only [ly, Act.put]
    refine tkx 9 (.int .i64 (i : Int)) hHeld ?_; simp only [ly, Act.put]
    refine tkx 10 (.bool true) hHeld ?_; simp only [ly, Act.put]
    refine wpAnyH_done (by kernel_rfl) ?_ _
    clear hHeld
    go_wp2_with fail
    go_ret
    exact ⟨⟨_, rfl⟩, _, _, _, hR2.out.old hbf.out hold.out⟩
  · have hx' := hid hno
    clear hno
    have hmap := hid hR2.out.map
    rcases hmap.out with ⟨rfl, hks⟩ | ⟨mb, rfl, hm⟩
    · have hks' := hid hks
      clear hks
      go_enter Try.func91, Try.ntmps91
      go_wp2_with (first
        | ((with_reducible refine at_slot (some 4) ?_); refine wpList_run rfl (.pointer (some ⟨g, 0, none⟩)) (w.alloc (.cells (byteCells k).toArray 33)) (by rw [← hg'.out]; kernel_rfl) ?_; rw [hWa'.out])
        | ((with_reducible refine at_slot (some 5) ?_); refine wpList_run rfl (.pointer (some ⟨g2, 0, none⟩)) (Wa.alloc (.cells (byteCells k).toArray 33)) (by rw [← hg2'.out]; kernel_rfl) ?_; rw [hW0'.out])
        | fail)
      have c0 := hL.out.cO 0 _ rfl
      refine wp_region_held_drew (S := fun V => V.cell? ⟨r, 0, none⟩ = some (.map none) ∧ Holds V g 33 (byteCells k) ∧ (Instr.lookup 140 (.map none) (.agg (byteCells k).toArray) true).run Try.prog V = .ok (.tuple #[.int .i64 0, .bool false]) V) (by kernel_rfl) ⟨c0, hXd.out, hlk⟩ (fun hHeld => ?_)
      clear c0 hlk
      generalize W0.drew = Wd at *
      refine tkx 0 (.pointer (some ⟨r, 0, none⟩)) hHeld ?_; simp only [ly, Act.put]
      refine tkx 1 (.pointer (some ⟨r, 0, none⟩)) hHeld ?_; simp only [ly, Act.put]
      refine tkx 2 (.pointer (some ⟨r, 0, none⟩)) hHeld ?_; simp only [ly, Act.put]
      refine tkx 3 (.map none) hHeld ?_ (hy := .inl ⟨by kernel_rfl, fun V hS => by have c1 := hS.1; go_simp⟩); simp only [ly, Act.put]
      refine tkx 4 (.agg (byteCells k).toArray) hHeld ?_ (hy := yieldsIf_load_any (by kernel_rfl) _ _ rfl ⟨g, 0, none⟩ rfl (byteCells k) _ (fun V hS => hS.2.1.anyO) Try.underlying33 rfl (by exact hC.out.size')); simp only [ly, Act.put]
      refine tkx 5 (.tuple #[.int .i64 0, .bool false]) hHeld ?_ (hy := yieldsIf_lookup 140 (.tmp 13) (.tmp 14) true rfl rfl rfl rfl (fun V hS => hS.2.2)); simp only [ly, Act.put]
      refine tkx 6 (.tuple #[.int .i64 0, .bool false]) hHeld ?_; simp only [ly, Act.put]
      refine tkx 7 (.int .i64 0) hHeld ?_; simp only [ly, Act.put]
      refine tkx 8 (.bool false) hHeld ?_; simp only [ly, Act.put]
      refine tkx 9 (.int .i64 0) hHeld ?_; simp only [ly, Act.put]
      refine tkx 10 (.bool false) hHeld ?_; simp only [ly, Act.put]
      refine wpAnyH_done (by kernel_rfl) ?_ _
      clear hHeld
      have c0 := hL.out.cO 0 _ rfl
      have c1 := hL.out.cO 1 _ rfl
      have f0 := hL.out.frozen 0
      have he := hkNil Wd
      obtain ⟨mb, hmb⟩ : ∃ q, Wd.heap.size = q := ⟨_, rfl⟩
      have hmb' := hid hmb
      obtain ⟨V0, hV0⟩ : ∃ V, Wd.alloc (.map #[] 0) = V := ⟨_, rfl⟩
      have hb0 : Below Wd.heap.size Wd V0 := by rw [← hV0]; exact (Below.refl _ _).alloc (Nat.le_refl _) _
      have hH0 := hid (hL.out.below hb0 hL.out.lt)
      have hXv := hid (hXd.out.below hb0 hXd.out.lt)
      have hYv := hid (hYd.out.below hb0 hYd.out.lt)
      have hmp := hid (show MapAt V0 mb [] from by rw [← hV0, ← hmb]; exact MapAt.new Wd)
      have hb0' := hid hb0
      have hV0' := hid hV0
      clear hmb hb0 hV0
      go_wp2_with (first
        | ((with_reducible refine at_slot (some 25) ?_); refine wpList_run rfl (.map (some mb)) (Wd.alloc (.map #[] 0)) (by rw [← hmb'.out]; kernel_rfl) ?_; rw [hV0'.out]; clear c0 c1 f0; have c0 := hH0.out.cO 0 _ rfl; have c1 := hH0.out.cO 1 _ rfl; have f0 := hH0.out.frozen 0)
        | fail)
      obtain ⟨V1, hV1⟩ : ∃ V, V0.setCell ⟨r, 0, none⟩ (.map (some mb)) = V := ⟨_, rfl⟩
      have hgr := hrl.out
      have hgg := hg'.out
      have hgg3 := hgg2.out
      have hss := hsz.out
      have hmbb := hmb'.out
      have hC0 := hid (show Holds V1 r 170 [.map (some mb), .slice A hs.length c] from by rw [← hV1]; exact hH0.out.set 0 _)
      have hX0 := hid (show Holds V1 g 33 (byteCells k) from by rw [← hV1]; exact hXv.out.far ⟨r, 0, none⟩ (by show g ≠ r; omega) _)
      have hY0 := hid (show Holds V1 g2 33 (byteCells k) from by rw [← hV1]; exact hYv.out.far ⟨r, 0, none⟩ (by show g2 ≠ r; omega) _)
      have hM0 := hid (show MapAt V1 mb (hkPairs (hs.map hk0)) from by rw [← hV1, hks'.out]; exact hmp.out.far ⟨r, 0, none⟩ (by show mb ≠ r; omega) _)
      have hT0 := hid (show TurnS (fun k => k = r) w V1 from by rw [← hV1]; exact ⟨hb0'.out.os.trans hbf.out.os, hb0'.out.tape.trans hbf.out.tape, hb0'.out.output.trans hbf.out.output, by rw [World.size_setCell]; exact Nat.le_trans hbf.out.size hb0'.out.size, fun k hk hne => (heap_setCell_other _ _ _ _ hne).trans ((hb0'.out.block k (by omega)).trans (hbf.out.block k hk))⟩)
      have hR0 := hid (show V1.ownsRow B 33 32 (.slice A hs.length c) hs.length (hashCells hs) from by
        have hne : ∀ k, (Value.slice A hs.length c).ownBlock = some k → k ≠ r := fun k e => own_neF hR2.out.row e hL.out (by decide)
        rw [← hV1]
        exact rown_block (rown_onF hR2.out.row hb0'.out) fun k hk => heap_setCell_other _ _ _ _ (hne k hk))
      have hmo := hid (show (none : Option Nat) = some mb ∨ w.heap.size ≤ mb from .inr (by omega))
      have hmr := hid (show mb ≠ r from by omega)
      have hmg := hid (show mb ≠ g from by omega)
      have hmg2 := hid (show mb ≠ g2 from by omega)
      rw [hV1]
      clear hV1 hH0 hmp c0 c1 f0 he hgr hgg hss hmbb hgg3
      have hMd := hid (show MapAt V1.drew mb (hkPairs (hs.map hk0)) from hM0.out)
      have hCd := hid (show Holds V1.drew r 170 [.map (some mb), .slice A hs.length c] from hC0.out)
      have hXe := hid (show Holds V1.drew g 33 (byteCells k) from hX0.out)
      have hYe := hid (show Holds V1.drew g2 33 (byteCells k) from hY0.out)
      have hRe := hid (rown_onF hR0.out ((Below.refl V1.heap.size V1).drew))
      have hTd := hid (show TurnS (fun k => k = r) w V1.drew from ⟨hT0.out.os, hT0.out.tape, hT0.out.output, hT0.out.size, hT0.out.block⟩)
      have hzd := hid (show w.heap.size ≤ V1.drew.heap.size from hT0.out.size)
      refine wp_region_held_drew (S := fun V => V.cell? ⟨r, 0, none⟩ = some (.map (some mb)) ∧ V.cell? ⟨r, 1, none⟩ = some (.slice A hs.length c) ∧ Holds V g 33 (byteCells k)) (by kernel_rfl) (by exact ⟨hCd.out.cO 0 _ rfl, hCd.out.cO 1 _ rfl, hXe.out⟩) (fun hHeld => ?_)
      clear hM0 hC0 hR0 hT0 hX0 hY0
      generalize V1.drew = We at *
      refine tkx 0 (.pointer (some ⟨r, 0, none⟩)) hHeld ?_; simp only [ly, Act.put]
      refine tkx 1 (.pointer (some ⟨r, 0, none⟩)) hHeld ?_; simp only [ly, Act.put]
      refine tkx 2 (.pointer (some ⟨r, 0, none⟩)) hHeld ?_; simp only [ly, Act.put]
      refine tkx 3 (.map (some mb)) hHeld ?_ (hy := .inl ⟨by kernel_rfl, fun V hS => by have c1 := hS.1; go_simp⟩); simp only [ly, Act.put]
      refine tkx 4 (.agg (byteCells k).toArray) hHeld ?_ (hy := yieldsIf_load_any (by kernel_rfl) _ _ rfl ⟨g, 0, none⟩ rfl (byteCells k) _ (fun V hS => hS.2.2.anyO) Try.underlying33 rfl (by exact hC.out.size')); simp only [ly, Act.put]
      refine tkx 5 (.pointer (some ⟨r, 0, none⟩)) hHeld ?_; simp only [ly, Act.put]
      refine tkx 6 (.pointer (some ⟨r, 0, none⟩)) hHeld ?_; simp only [ly, Act.put]
      refine tkx 7 (.pointer (some ⟨r, 1, none⟩)) hHeld ?_; simp only [ly, Act.put]
      refine tkx 8 (.slice A hs.length c) hHeld ?_ (hy := .inl ⟨by kernel_rfl, fun V hS => by have c1 := hS.2.1; go_simp⟩); simp only [ly, Act.put]
      refine tkx 9 (.int .i64 (hs.length : Int)) hHeld ?_; simp only [ly, Act.put]
      obtain ⟨kl, hkey⟩ := hash_key k hk'.out
      obtain ⟨W1, hr, hm1, hz1, hk1, hg1⟩ := hMd.out.put (P := Try.prog) hash_keyed (hkPairs_keys (hs.map hk0) (hk0_len hln.out)) Try.underlying140 hkey (hkPairs_no (hk0_no hx'.out)) (.int .i64 (hs.length : Int))
      refine wpAnyH_ready (rs := [10]) (by kernel_rfl) (by simp) (AllReadyH.cons rfl (fun K hK => ?_) AllReadyH.nil)
      have hK' := hid hK
      clear hK
      rw [if_pos (by kernel_rfl)]
      simp only [ly1, ly2, ly3]
      refine wp_mapPut (.tmp 31) (.tmp 32) (.tmp 37) _ rfl (.map (some mb)) (.agg (byteCells k).toArray) (.int .i64 (hs.length : Int)) rfl rfl rfl (by exact hr) ?_
      have hC1 : Holds W1 r 170 [.map (some mb), .slice A hs.length c] := hCd.out.grown hg1 (fun e => hmr.out (Option.some.inj e).symm)
      have hX1 : Holds W1 g 33 (byteCells k) := hXe.out.grown hg1 (fun e => hmg.out (Option.some.inj e).symm)
      have hY1 := hid (show Holds W1 g2 33 (byteCells k) from hYe.out.grown hg1 (fun e => hmg2.out (Option.some.inj e).symm))
      have hR1 := hid (show W1.ownsRow B 33 32 (.slice A hs.length c) hs.length (hashCells hs) from rown_block hRe.out fun k hk => hg1.block k (hRe.out.lt k hk).2 (fun e => by
        have e2 := Option.some.inj e
        obtain ⟨es, cl, hb, _⟩ := hMd.out
        obtain ⟨cs, _, _, h3⟩ := own_cells hRe.out hk
        rw [e2, hb] at h3
        cases h3))
      refine hK'.out _ _ ⟨hC1.cO 0 _ rfl, hC1.cO 1 _ rfl, hX1⟩ (fun hHeld => ?_)
      clear hK' K hHeld
      refine wpAnyH_done (by kernel_rfl) ?_ _
      have hg1' := hid hg1
      have hm1' := hid hm1
      have hC4 := hid (show Holds W1.drew r 170 [.map (some mb), .slice A hs.length c] from hC1)
      have hrow4 := hid (show W1.drew.ownsRow B 33 32 (.slice A hs.length c) hs.length (hashCells hs) from rown_onF hR1.out ((Below.refl W1.heap.size W1).drew))
      have hz4 := hid (show w.heap.size ≤ W1.drew.heap.size from Nat.le_trans hzd.out hg1.size)
      have hbd := hid (show Below W1.heap.size W1 W1.drew from (Below.refl _ W1).drew)
      clear hr hk1 hg1 hm1 hC1 hkey hX1
      try go_wp2_with fail
      refine wp_region_held_drew (S := fun V => Holds V g2 33 (byteCells k)) (by kernel_rfl) (by exact hY1.out) (fun hHeld => ?_)
      generalize W1.drew = W4 at *
      refine tkx 0 (.pointer (some ⟨r, 0, none⟩)) hHeld ?_; simp only [ly, Act.put]
      refine tkx 1 (.pointer (some ⟨r, 0, none⟩)) hHeld ?_; simp only [ly, Act.put]
      refine tkx 2 (.pointer (some ⟨r, 0, none⟩)) hHeld ?_; simp only [ly, Act.put]
      refine tkx 3 (.pointer (some ⟨r, 1, none⟩)) hHeld ?_; simp only [ly, Act.put]
      refine tkx 5 (.agg (byteCells k).toArray) hHeld ?_ (hy := yieldsIf_load_any (by kernel_rfl) _ _ rfl ⟨g2, 0, none⟩ rfl (byteCells k) _ (fun V hS => hS.anyO) Try.underlying33 rfl (by exact hC.out.size')); simp only [ly, Act.put]
      refine wpAnyH_ready (rs := [4, 6]) (by kernel_rfl) (by simp) (AllReadyH.cons rfl (fun K hK => ?_) (AllReadyH.cons rfl (fun K hK => ?_) AllReadyH.nil))
      · skip
        have hK' := hid hK
        clear hK
        rw [if_pos (by kernel_rfl)]
        simp only [ly1, ly2, ly3]
        have c1 := (hC4.out).cO 1 _ rfl
        go_simp
        refine hK'.out _ _ hHeld (fun hHeld => ?_)
        clear hK' K c1
        refine wpAnyH_ready (rs := [6]) (by kernel_rfl) (by simp) (AllReadyH.cons rfl (fun K hK => ?_) AllReadyH.nil)
        have hK' := hid hK
        clear hK
        rw [if_pos (by kernel_rfl)]
        simp only [ly1, ly2, ly3]
        obtain ⟨i0, hi0, hz0, hz1, hz2⟩ := info_parts Try.infoHashD
        refine wp_build_oneF 62 33 (.tmp 43) rfl i0 _ Try.underlying62 hi0 hz0 (byteCells k).toArray rfl (by rw [hz1, List.size_toArray, hC.out.len]) (by rw [List.size_toArray, hC.out.len]; decide) (by rw [List.size_toArray, hC.out.len]; decide) ?_
        obtain ⟨W5, hW5⟩ : ∃ V, W4.alloc (.cells (byteCells k).toArray 33) = V := ⟨_, rfl⟩
        have hb5 : Below W4.heap.size W4 W5 := by rw [← hW5]; exact (Below.refl _ _).alloc (Nat.le_refl _) _
        have hnew := hid (show Holds W5 W4.heap.size 33 (byteCells k) from by rw [← hW5]; exact Holds.new W4 33 (byteCells k).toArray)
        have hC5 := hid (hC4.out.below hb5 hC4.out.lt)
        have hrow5 := hid (rown_onF hrow4.out hb5)
        have hX5 := hHeld.below hb5 hHeld.lt
        have hb5' := hid hb5
        rw [hW5]
        refine hK'.out _ _ hX5 (fun hHeld => ?_)
        clear hK' K hX5 hb5 hW5 hi0 hz0 hz1 hz2
        refine wpAnyH_ready (rs := [7]) (by kernel_rfl) (by simp) (AllReadyH.cons rfl (fun K hK => ?_) AllReadyH.nil)
        have hK' := hid hK
        clear hK
        rw [if_pos (by kernel_rfl)]
        simp only [ly1, ly2, ly3]
        refine wp_appendH (.tmp 42) (.tmp 44) rfl B A hs.length c W4.heap.size _ k rfl rfl hk'.out (by have := hn'.out; omega) hrow5.out hnew.out (by have := hB'.out; have := hz4.out; have := hb5'.out.size; omega) ?_
        intro A2 c2 W6 hrow6 hg6 hF6
        have hC6 := hid (hC5.out.grown hg6 (fun e => own_neF hrow5.out e.symm hC5.out (by decide) rfl))
        have hX6 : Holds W6 g2 33 (byteCells k) := (hg6.block g2 (by have := hHeld.lt; exact this) (fun e => by have := (hrow5.out.lt g2 e.symm).1; have := hlow.out g2 e.symm; have := hg'.out; have := hgg2.out; omega)).trans hHeld
        have hrow6' := hid hrow6
        have hg6' := hid hg6
        have hF6' := hid hF6
        refine hK'.out _ _ hX6 (fun hHeld => ?_)
        clear hK' K hX6 hrow6 hg6 hF6
        refine tkx 8 (.pointer (some ⟨r, 0, none⟩)) hHeld ?_; simp only [ly, Act.put]
        refine tkx 9 (.pointer (some ⟨r, 1, none⟩)) hHeld ?_; simp only [ly, Act.put]
        refine wpAnyH_ready (rs := [10]) (by kernel_rfl) (by simp) (AllReadyH.cons rfl (fun K hK => ?_) AllReadyH.nil)
        have hK' := hid hK
        clear hK
        rw [if_pos (by kernel_rfl)]
        simp only [ly1, ly2, ly3]
        have c1 := hC6.out.cO 1 _ rfl
        have f1 := hC6.out.frozen 1
        go_simp
        obtain ⟨W7, hW7⟩ : ∃ V, W6.setCell ⟨r, 1, none⟩ (.slice A2 (hs.length + 1) c2) = V := ⟨_, rfl⟩
        have hX7 : Holds W7 g2 33 (byteCells k) := by rw [← hW7]; exact hHeld.far ⟨r, 1, none⟩ (by have := hgr2.out; show g2 ≠ r; omega) _
        rw [hW7]
        refine hK'.out _ _ hX7 (fun hHeld => ?_)
        clear hK' K c1 f1
        refine wpAnyH_done (by kernel_rfl) ?_ _
        have hend := hid (hhput_end hln.out hx'.out hk'.out hmr.out (by first | exact hmo.out | exact .inl rfl) hCd.out hTd.out hm1'.out hg1'.out hR1.out hrow6'.out (gr_trans (gr_of (hbd.out.trans (hb5'.out.mono hbd.out.size)) _) hg6'.out) (hF6'.out.low (hbd.out.trans (hb5'.out.mono hbd.out.size))) hW7)
        clear hHeld hX7
        go_wp2_with fail
        go_ret
        exact ⟨⟨_, rfl⟩, some mb, A2, c2, hend.out⟩
      · skip
        have hK' := hid hK
        clear hK
        rw [if_pos (by kernel_rfl)]
        simp only [ly1, ly2, ly3]
        obtain ⟨i0, hi0, hz0, hz1, hz2⟩ := info_parts Try.infoHashD
        refine wp_build_oneF 62 33 (.tmp 43) rfl i0 _ Try.underlying62 hi0 hz0 (byteCells k).toArray rfl (by rw [hz1, List.size_toArray, hC.out.len]) (by rw [List.size_toArray, hC.out.len]; decide) (by rw [List.size_toArray, hC.out.len]; decide) ?_
        obtain ⟨W5, hW5⟩ : ∃ V, W4.alloc (.cells (byteCells k).toArray 33) = V := ⟨_, rfl⟩
        have hb5 : Below W4.heap.size W4 W5 := by rw [← hW5]; exact (Below.refl _ _).alloc (Nat.le_refl _) _
        have hnew := hid (show Holds W5 W4.heap.size 33 (byteCells k) from by rw [← hW5]; exact Holds.new W4 33 (byteCells k).toArray)
        have hC5 := hid (hC4.out.below hb5 hC4.out.lt)
        have hrow5 := hid (rown_onF hrow4.out hb5)
        have hX5 := hHeld.below hb5 hHeld.lt
        have hb5' := hid hb5
        rw [hW5]
        refine hK'.out _ _ hX5 (fun hHeld => ?_)
        clear hK' K hX5 hb5 hW5 hi0 hz0 hz1 hz2
        refine wpAnyH_ready (rs := [4]) (by kernel_rfl) (by simp) (AllReadyH.cons rfl (fun K hK => ?_) AllReadyH.nil)
        have hK' := hid hK
        clear hK
        rw [if_pos (by kernel_rfl)]
        simp only [ly1, ly2, ly3]
        have c1 := (hC5.out).cO 1 _ rfl
        go_simp
        refine hK'.out _ _ hHeld (fun hHeld => ?_)
        clear hK' K c1
        refine wpAnyH_ready (rs := [7]) (by kernel_rfl) (by simp) (AllReadyH.cons rfl (fun K hK => ?_) AllReadyH.nil)
        have hK' := hid hK
        clear hK
        rw [if_pos (by kernel_rfl)]
        simp only [ly1, ly2, ly3]
        refine wp_appendH (.tmp 42) (.tmp 44) rfl B A hs.length c W4.heap.size _ k rfl rfl hk'.out (by have := hn'.out; omega) hrow5.out hnew.out (by have := hB'.out; have := hz4.out; have := hb5'.out.size; omega) ?_
        intro A2 c2 W6 hrow6 hg6 hF6
        have hC6 := hid (hC5.out.grown hg6 (fun e => own_neF hrow5.out e.symm hC5.out (by decide) rfl))
        have hX6 : Holds W6 g2 33 (byteCells k) := (hg6.block g2 (by have := hHeld.lt; exact this) (fun e => by have := (hrow5.out.lt g2 e.symm).1; have := hlow.out g2 e.symm; have := hg'.out; have := hgg2.out; omega)).trans hHeld
        have hrow6' := hid hrow6
        have hg6' := hid hg6
        have hF6' := hid hF6
        refine hK'.out _ _ hX6 (fun hHeld => ?_)
        clear hK' K hX6 hrow6 hg6 hF6
        refine tkx 8 (.pointer (some ⟨r, 0, none⟩)) hHeld ?_; simp only [ly, Act.put]
        refine tkx 9 (.pointer (some ⟨r, 1, none⟩)) hHeld ?_; simp only [ly, Act.put]
        refine wpAnyH_ready (rs := [10]) (by kernel_rfl) (by simp) (AllReadyH.cons rfl (fun K hK => ?_) AllReadyH.nil)
        have hK' := hid hK
        clear hK
        rw [if_pos (by kernel_rfl)]
        simp only [ly1, ly2, ly3]
        have c1 := hC6.out.cO 1 _ rfl
        have f1 := hC6.out.frozen 1
        go_simp
        obtain ⟨W7, hW7⟩ : ∃ V, W6.setCell ⟨r, 1, none⟩ (.slice A2 (hs.length + 1) c2) = V := ⟨_, rfl⟩
        have hX7 : Holds W7 g2 33 (byteCells k) := by rw [← hW7]; exact hHeld.far ⟨r, 1, none⟩ (by have := hgr2.out; show g2 ≠ r; omega) _
        rw [hW7]
        refine hK'.out _ _ hX7 (fun hHeld => ?_)
        clear hK' K c1 f1
        refine wpAnyH_done (by kernel_rfl) ?_ _
        have hend := hid (hhput_end hln.out hx'.out hk'.out hmr.out (by first | exact hmo.out | exact .inl rfl) hCd.out hTd.out hm1'.out hg1'.out hR1.out hrow6'.out (gr_trans (gr_of (hbd.out.trans (hb5'.out.mono hbd.out.size)) _) hg6'.out) (hF6'.out.low (hbd.out.trans (hb5'.out.mono hbd.out.size))) hW7)
        clear hHeld hX7
        go_wp2_with fail
        go_ret
        exact ⟨⟨_, rfl⟩, some mb, A2, c2, hend.out⟩
    · have hM1 := hid hm
      clear hm
      go_enter Try.func91, Try.ntmps91
      go_wp2_with (first
        | ((with_reducible refine at_slot (some 4) ?_); refine wpList_run rfl (.pointer (some ⟨g, 0, none⟩)) (w.alloc (.cells (byteCells k).toArray 33)) (by rw [← hg'.out]; kernel_rfl) ?_; rw [hWa'.out])
        | ((with_reducible refine at_slot (some 5) ?_); refine wpList_run rfl (.pointer (some ⟨g2, 0, none⟩)) (Wa.alloc (.cells (byteCells k).toArray 33)) (by rw [← hg2'.out]; kernel_rfl) ?_; rw [hW0'.out])
        | fail)
      have c0 := hL.out.cO 0 _ rfl
      refine wp_region_held_drew (S := fun V => V.cell? ⟨r, 0, none⟩ = some (.map (some mb)) ∧ Holds V g 33 (byteCells k) ∧ (Instr.lookup 140 (.map (some mb)) (.agg (byteCells k).toArray) true).run Try.prog V = .ok (.tuple #[.int .i64 0, .bool false]) V) (by kernel_rfl) ⟨c0, hXd.out, hlk⟩ (fun hHeld => ?_)
      clear c0 hlk
      generalize W0.drew = Wd at *
      refine tkx 0 (.pointer (some ⟨r, 0, none⟩)) hHeld ?_; simp only [ly, Act.put]
      refine tkx 1 (.pointer (some ⟨r, 0, none⟩)) hHeld ?_; simp only [ly, Act.put]
      refine tkx 2 (.pointer (some ⟨r, 0, none⟩)) hHeld ?_; simp only [ly, Act.put]
      refine tkx 3 (.map (some mb)) hHeld ?_ (hy := .inl ⟨by kernel_rfl, fun V hS => by have c1 := hS.1; go_simp⟩); simp only [ly, Act.put]
      refine tkx 4 (.agg (byteCells k).toArray) hHeld ?_ (hy := yieldsIf_load_any (by kernel_rfl) _ _ rfl ⟨g, 0, none⟩ rfl (byteCells k) _ (fun V hS => hS.2.1.anyO) Try.underlying33 rfl (by exact hC.out.size')); simp only [ly, Act.put]
      refine tkx 5 (.tuple #[.int .i64 0, .bool false]) hHeld ?_ (hy := yieldsIf_lookup 140 (.tmp 13) (.tmp 14) true rfl rfl rfl rfl (fun V hS => hS.2.2)); simp only [ly, Act.put]
      refine tkx 6 (.tuple #[.int .i64 0, .bool false]) hHeld ?_; simp only [ly, Act.put]
      refine tkx 7 (.int .i64 0) hHeld ?_; simp only [ly, Act.put]
      refine tkx 8 (.bool false) hHeld ?_; simp only [ly, Act.put]
      refine tkx 9 (.int .i64 0) hHeld ?_; simp only [ly, Act.put]
      refine tkx 10 (.bool false) hHeld ?_; simp only [ly, Act.put]
      refine wpAnyH_done (by kernel_rfl) ?_ _
      clear hHeld
      have c0 := hL.out.cO 0 _ rfl
      have c1 := hL.out.cO 1 _ rfl
      have he := hkSome Wd mb
      go_wp2_with fail
      obtain ⟨V1, hV1⟩ : ∃ V, Wd = V := ⟨_, rfl⟩
      have hC0 := hid (show Holds V1 r 170 [.map (some mb), .slice A hs.length c] from by rw [← hV1]; exact hL.out)
      have hX0 := hid (show Holds V1 g 33 (byteCells k) from by rw [← hV1]; exact hXd.out)
      have hY0 := hid (show Holds V1 g2 33 (byteCells k) from by rw [← hV1]; exact hYd.out)
      have hM0 := hid (show MapAt V1 mb (hkPairs (hs.map hk0)) from by rw [← hV1]; exact hM1.out)
      have hR0 := hid (show V1.ownsRow B 33 32 (.slice A hs.length c) hs.length (hashCells hs) from by rw [← hV1]; exact hR2.out.row)
      have hT0 := hid (show TurnS (fun k => k = r) w V1 from by rw [← hV1]; exact TurnS.of_below hbf.out)
      have hmo := hid (show (some mb : Option Nat) = some mb ∨ w.heap.size ≤ mb from .inl rfl)
      have hmr := hid (show mb ≠ r from fun e => by
        obtain ⟨es, cl, hb, _⟩ := hM1.out
        have h3 := hL.out
        rw [e] at hb
        unfold Holds at h3
        rw [hb] at h3
        cases h3)
      have hmg := hid (show mb ≠ g from by have := hml.out mb rfl; have := hg'.out; omega)
      have hmg2 := hid (show mb ≠ g2 from by have := hml.out mb rfl; have := hg'.out; have := hgg2.out; omega)
      rw [hV1]
      clear hV1 c0 c1 he
      have hMd := hid (show MapAt V1.drew mb (hkPairs (hs.map hk0)) from hM0.out)
      have hCd := hid (show Holds V1.drew r 170 [.map (some mb), .slice A hs.length c] from hC0.out)
      have hXe := hid (show Holds V1.drew g 33 (byteCells k) from hX0.out)
      have hYe := hid (show Holds V1.drew g2 33 (byteCells k) from hY0.out)
      have hRe := hid (rown_onF hR0.out ((Below.refl V1.heap.size V1).drew))
      have hTd := hid (show TurnS (fun k => k = r) w V1.drew from ⟨hT0.out.os, hT0.out.tape, hT0.out.output, hT0.out.size, hT0.out.block⟩)
      have hzd := hid (show w.heap.size ≤ V1.drew.heap.size from hT0.out.size)
      refine wp_region_held_drew (S := fun V => V.cell? ⟨r, 0, none⟩ = some (.map (some mb)) ∧ V.cell? ⟨r, 1, none⟩ = some (.slice A hs.length c) ∧ Holds V g 33 (byteCells k)) (by kernel_rfl) (by exact ⟨hCd.out.cO 0 _ rfl, hCd.out.cO 1 _ rfl, hXe.out⟩) (fun hHeld => ?_)
      clear hM0 hC0 hR0 hT0 hX0 hY0
      generalize V1.drew = We at *
      refine tkx 0 (.pointer (some ⟨r, 0, none⟩)) hHeld ?_; simp only [ly, Act.put]
      refine tkx 1 (.pointer (some ⟨r, 0, none⟩)) hHeld ?_; simp only [ly, Act.put]
      refine tkx 2 (.pointer (some ⟨r, 0, none⟩)) hHeld ?_; simp only [ly, Act.put]
      refine tkx 3 (.map (some mb)) hHeld ?_ (hy := .inl ⟨by kernel_rfl, fun V hS => by have c1 := hS.1; go_simp⟩); simp only [ly, Act.put]
      refine tkx 4 (.agg (byteCells k).toArray) hHeld ?_ (hy := yieldsIf_load_any (by kernel_rfl) _ _ rfl ⟨g, 0, none⟩ rfl (byteCells k) _ (fun V hS => hS.2.2.anyO) Try.underlying33 rfl (by exact hC.out.size')); simp only [ly, Act.put]
      refine tkx 5 (.pointer (some ⟨r, 0, none⟩)) hHeld ?_; simp only [ly, Act.put]
      refine tkx 6 (.pointer (some ⟨r, 0, none⟩)) hHeld ?_; simp only [ly, Act.put]
      refine tkx 7 (.pointer (some ⟨r, 1, none⟩)) hHeld ?_; simp only [ly, Act.put]
      refine tkx 8 (.slice A hs.length c) hHeld ?_ (hy := .inl ⟨by kernel_rfl, fun V hS => by have c1 := hS.2.1; go_simp⟩); simp only [ly, Act.put]
      refine tkx 9 (.int .i64 (hs.length : Int)) hHeld ?_; simp only [ly, Act.put]
      obtain ⟨kl, hkey⟩ := hash_key k hk'.out
      obtain ⟨W1, hr, hm1, hz1, hk1, hg1⟩ := hMd.out.put (P := Try.prog) hash_keyed (hkPairs_keys (hs.map hk0) (hk0_len hln.out)) Try.underlying140 hkey (hkPairs_no (hk0_no hx'.out)) (.int .i64 (hs.length : Int))
      refine wpAnyH_ready (rs := [10]) (by kernel_rfl) (by simp) (AllReadyH.cons rfl (fun K hK => ?_) AllReadyH.nil)
      have hK' := hid hK
      clear hK
      rw [if_pos (by kernel_rfl)]
      simp only [ly1, ly2, ly3]
      refine wp_mapPut (.tmp 31) (.tmp 32) (.tmp 37) _ rfl (.map (some mb)) (.agg (byteCells k).toArray) (.int .i64 (hs.length : Int)) rfl rfl rfl (by exact hr) ?_
      have hC1 : Holds W1 r 170 [.map (some mb), .slice A hs.length c] := hCd.out.grown hg1 (fun e => hmr.out (Option.some.inj e).symm)
      have hX1 : Holds W1 g 33 (byteCells k) := hXe.out.grown hg1 (fun e => hmg.out (Option.some.inj e).symm)
      have hY1 := hid (show Holds W1 g2 33 (byteCells k) from hYe.out.grown hg1 (fun e => hmg2.out (Option.some.inj e).symm))
      have hR1 := hid (show W1.ownsRow B 33 32 (.slice A hs.length c) hs.length (hashCells hs) from rown_block hRe.out fun k hk => hg1.block k (hRe.out.lt k hk).2 (fun e => by
        have e2 := Option.some.inj e
        obtain ⟨es, cl, hb, _⟩ := hMd.out
        obtain ⟨cs, _, _, h3⟩ := own_cells hRe.out hk
        rw [e2, hb] at h3
        cases h3))
      refine hK'.out _ _ ⟨hC1.cO 0 _ rfl, hC1.cO 1 _ rfl, hX1⟩ (fun hHeld => ?_)
      clear hK' K hHeld
      refine wpAnyH_done (by kernel_rfl) ?_ _
      have hg1' := hid hg1
      have hm1' := hid hm1
      have hC4 := hid (show Holds W1.drew r 170 [.map (some mb), .slice A hs.length c] from hC1)
      have hrow4 := hid (show W1.drew.ownsRow B 33 32 (.slice A hs.length c) hs.length (hashCells hs) from rown_onF hR1.out ((Below.refl W1.heap.size W1).drew))
      have hz4 := hid (show w.heap.size ≤ W1.drew.heap.size from Nat.le_trans hzd.out hg1.size)
      have hbd := hid (show Below W1.heap.size W1 W1.drew from (Below.refl _ W1).drew)
      clear hr hk1 hg1 hm1 hC1 hkey hX1
      try go_wp2_with fail
      refine wp_region_held_drew (S := fun V => Holds V g2 33 (byteCells k)) (by kernel_rfl) (by exact hY1.out) (fun hHeld => ?_)
      generalize W1.drew = W4 at *
      refine tkx 0 (.pointer (some ⟨r, 0, none⟩)) hHeld ?_; simp only [ly, Act.put]
      refine tkx 1 (.pointer (some ⟨r, 0, none⟩)) hHeld ?_; simp only [ly, Act.put]
      refine tkx 2 (.pointer (some ⟨r, 0, none⟩)) hHeld ?_; simp only [ly, Act.put]
      refine tkx 3 (.pointer (some ⟨r, 1, none⟩)) hHeld ?_; simp only [ly, Act.put]
      refine tkx 5 (.agg (byteCells k).toArray) hHeld ?_ (hy := yieldsIf_load_any (by kernel_rfl) _ _ rfl ⟨g2, 0, none⟩ rfl (byteCells k) _ (fun V hS => hS.anyO) Try.underlying33 rfl (by exact hC.out.size')); simp only [ly, Act.put]
      refine wpAnyH_ready (rs := [4, 6]) (by kernel_rfl) (by simp) (AllReadyH.cons rfl (fun K hK => ?_) (AllReadyH.cons rfl (fun K hK => ?_) AllReadyH.nil))
      · skip
        have hK' := hid hK
        clear hK
        rw [if_pos (by kernel_rfl)]
        simp only [ly1, ly2, ly3]
        have c1 := (hC4.out).cO 1 _ rfl
        go_simp
        refine hK'.out _ _ hHeld (fun hHeld => ?_)
        clear hK' K c1
        refine wpAnyH_ready (rs := [6]) (by kernel_rfl) (by simp) (AllReadyH.cons rfl (fun K hK => ?_) AllReadyH.nil)
        have hK' := hid hK
        clear hK
        rw [if_pos (by kernel_rfl)]
        simp only [ly1, ly2, ly3]
        obtain ⟨i0, hi0, hz0, hz1, hz2⟩ := info_parts Try.infoHashD
        refine wp_build_oneF 62 33 (.tmp 43) rfl i0 _ Try.underlying62 hi0 hz0 (byteCells k).toArray rfl (by rw [hz1, List.size_toArray, hC.out.len]) (by rw [List.size_toArray, hC.out.len]; decide) (by rw [List.size_toArray, hC.out.len]; decide) ?_
        obtain ⟨W5, hW5⟩ : ∃ V, W4.alloc (.cells (byteCells k).toArray 33) = V := ⟨_, rfl⟩
        have hb5 : Below W4.heap.size W4 W5 := by rw [← hW5]; exact (Below.refl _ _).alloc (Nat.le_refl _) _
        have hnew := hid (show Holds W5 W4.heap.size 33 (byteCells k) from by rw [← hW5]; exact Holds.new W4 33 (byteCells k).toArray)
        have hC5 := hid (hC4.out.below hb5 hC4.out.lt)
        have hrow5 := hid (rown_onF hrow4.out hb5)
        have hX5 := hHeld.below hb5 hHeld.lt
        have hb5' := hid hb5
        rw [hW5]
        refine hK'.out _ _ hX5 (fun hHeld => ?_)
        clear hK' K hX5 hb5 hW5 hi0 hz0 hz1 hz2
        refine wpAnyH_ready (rs := [7]) (by kernel_rfl) (by simp) (AllReadyH.cons rfl (fun K hK => ?_) AllReadyH.nil)
        have hK' := hid hK
        clear hK
        rw [if_pos (by kernel_rfl)]
        simp only [ly1, ly2, ly3]
        refine wp_appendH (.tmp 42) (.tmp 44) rfl B A hs.length c W4.heap.size _ k rfl rfl hk'.out (by have := hn'.out; omega) hrow5.out hnew.out (by have := hB'.out; have := hz4.out; have := hb5'.out.size; omega) ?_
        intro A2 c2 W6 hrow6 hg6 hF6
        have hC6 := hid (hC5.out.grown hg6 (fun e => own_neF hrow5.out e.symm hC5.out (by decide) rfl))
        have hX6 : Holds W6 g2 33 (byteCells k) := (hg6.block g2 (by have := hHeld.lt; exact this) (fun e => by have := (hrow5.out.lt g2 e.symm).1; have := hlow.out g2 e.symm; have := hg'.out; have := hgg2.out; omega)).trans hHeld
        have hrow6' := hid hrow6
        have hg6' := hid hg6
        have hF6' := hid hF6
        refine hK'.out _ _ hX6 (fun hHeld => ?_)
        clear hK' K hX6 hrow6 hg6 hF6
        refine tkx 8 (.pointer (some ⟨r, 0, none⟩)) hHeld ?_; simp only [ly, Act.put]
        refine tkx 9 (.pointer (some ⟨r, 1, none⟩)) hHeld ?_; simp only [ly, Act.put]
        refine wpAnyH_ready (rs := [10]) (by kernel_rfl) (by simp) (AllReadyH.cons rfl (fun K hK => ?_) AllReadyH.nil)
        have hK' := hid hK
        clear hK
        rw [if_pos (by kernel_rfl)]
        simp only [ly1, ly2, ly3]
        have c1 := hC6.out.cO 1 _ rfl
        have f1 := hC6.out.frozen 1
        go_simp
        obtain ⟨W7, hW7⟩ : ∃ V, W6.setCell ⟨r, 1, none⟩ (.slice A2 (hs.length + 1) c2) = V := ⟨_, rfl⟩
        have hX7 : Holds W7 g2 33 (byteCells k) := by rw [← hW7]; exact hHeld.far ⟨r, 1, none⟩ (by have := hgr2.out; show g2 ≠ r; omega) _
        rw [hW7]
        refine hK'.out _ _ hX7 (fun hHeld => ?_)
        clear hK' K c1 f1
        refine wpAnyH_done (by kernel_rfl) ?_ _
        have hend := hid (hhput_end hln.out hx'.out hk'.out hmr.out (by first | exact hmo.out | exact .inl rfl) hCd.out hTd.out hm1'.out hg1'.out hR1.out hrow6'.out (gr_trans (gr_of (hbd.out.trans (hb5'.out.mono hbd.out.size)) _) hg6'.out) (hF6'.out.low (hbd.out.trans (hb5'.out.mono hbd.out.size))) hW7)
        clear hHeld hX7
        go_wp2_with fail
        go_ret
        exact ⟨⟨_, rfl⟩, some mb, A2, c2, hend.out⟩
      · skip
        have hK' := hid hK
        clear hK
        rw [if_pos (by kernel_rfl)]
        simp only [ly1, ly2, ly3]
        obtain ⟨i0, hi0, hz0, hz1, hz2⟩ := info_parts Try.infoHashD
        refine wp_build_oneF 62 33 (.tmp 43) rfl i0 _ Try.underlying62 hi0 hz0 (byteCells k).toArray rfl (by rw [hz1, List.size_toArray, hC.out.len]) (by rw [List.size_toArray, hC.out.len]; decide) (by rw [List.size_toArray, hC.out.len]; decide) ?_
        obtain ⟨W5, hW5⟩ : ∃ V, W4.alloc (.cells (byteCells k).toArray 33) = V := ⟨_, rfl⟩
        have hb5 : Below W4.heap.size W4 W5 := by rw [← hW5]; exact (Below.refl _ _).alloc (Nat.le_refl _) _
        have hnew := hid (show Holds W5 W4.heap.size 33 (byteCells k) from by rw [← hW5]; exact Holds.new W4 33 (byteCells k).toArray)
        have hC5 := hid (hC4.out.below hb5 hC4.out.lt)
        have hrow5 := hid (rown_onF hrow4.out hb5)
        have hX5 := hHeld.below hb5 hHeld.lt
        have hb5' := hid hb5
        rw [hW5]
        refine hK'.out _ _ hX5 (fun hHeld => ?_)
        clear hK' K hX5 hb5 hW5 hi0 hz0 hz1 hz2
        refine wpAnyH_ready (rs := [4]) (by kernel_rfl) (by simp) (AllReadyH.cons rfl (fun K hK => ?_) AllReadyH.nil)
        have hK' := hid hK
        clear hK
        rw [if_pos (by kernel_rfl)]
        simp only [ly1, ly2, ly3]
        have c1 := (hC5.out).cO 1 _ rfl
        go_simp
        refine hK'.out _ _ hHeld (fun hHeld => ?_)
        clear hK' K c1
        refine wpAnyH_ready (rs := [7]) (by kernel_rfl) (by simp) (AllReadyH.cons rfl (fun K hK => ?_) AllReadyH.nil)
        have hK' := hid hK
        clear hK
        rw [if_pos (by kernel_rfl)]
        simp only [ly1, ly2, ly3]
        refine wp_appendH (.tmp 42) (.tmp 44) rfl B A hs.length c W4.heap.size _ k rfl rfl hk'.out (by have := hn'.out; omega) hrow5.out hnew.out (by have := hB'.out; have := hz4.out; have := hb5'.out.size; omega) ?_
        intro A2 c2 W6 hrow6 hg6 hF6
        have hC6 := hid (hC5.out.grown hg6 (fun e => own_neF hrow5.out e.symm hC5.out (by decide) rfl))
        have hX6 : Holds W6 g2 33 (byteCells k) := (hg6.block g2 (by have := hHeld.lt; exact this) (fun e => by have := (hrow5.out.lt g2 e.symm).1; have := hlow.out g2 e.symm; have := hg'.out; have := hgg2.out; omega)).trans hHeld
        have hrow6' := hid hrow6
        have hg6' := hid hg6
        have hF6' := hid hF6
        refine hK'.out _ _ hX6 (fun hHeld => ?_)
        clear hK' K hX6 hrow6 hg6 hF6
        refine tkx 8 (.pointer (some ⟨r, 0, none⟩)) hHeld ?_; simp only [ly, Act.put]
        refine tkx 9 (.pointer (some ⟨r, 1, none⟩)) hHeld ?_; simp only [ly, Act.put]
        refine wpAnyH_ready (rs := [10]) (by kernel_rfl) (by simp) (AllReadyH.cons rfl (fun K hK => ?_) AllReadyH.nil)
        have hK' := hid hK
        clear hK
        rw [if_pos (by kernel_rfl)]
        simp only [ly1, ly2, ly3]
        have c1 := hC6.out.cO 1 _ rfl
        have f1 := hC6.out.frozen 1
        go_simp
        obtain ⟨W7, hW7⟩ : ∃ V, W6.setCell ⟨r, 1, none⟩ (.slice A2 (hs.length + 1) c2) = V := ⟨_, rfl⟩
        have hX7 : Holds W7 g2 33 (byteCells k) := by rw [← hW7]; exact hHeld.far ⟨r, 1, none⟩ (by have := hgr2.out; show g2 ≠ r; omega) _
        rw [hW7]
        refine hK'.out _ _ hX7 (fun hHeld => ?_)
        clear hK' K c1 f1
        refine wpAnyH_done (by kernel_rfl) ?_ _
        have hend := hid (hhput_end hln.out hx'.out hk'.out hmr.out (by first | exact hmo.out | exact .inl rfl) hCd.out hTd.out hm1'.out hg1'.out hR1.out hrow6'.out (gr_trans (gr_of (hbd.out.trans (hb5'.out.mono hbd.out.size)) _) hg6'.out) (hF6'.out.low (hbd.out.trans (hb5'.out.mono hbd.out.size))) hW7)
        clear hHeld hX7
        go_wp2_with fail
        go_ret
        exact ⟨⟨_, rfl⟩, some mb, A2, c2, hend.out⟩

end Go.Proofs.Ytpjfhbmegabafaa
