/- Layer 12, the program's side: rows of texts by their hashes.
   Layer 12, the program's side: a text put to a row by its hash. -/
import Derived.Test.YtpjfhbmegabafaaLFtU
import Derived.Test.YtpjfhbmegabafaaLObP
import Derived.Test.YtpjfhbmegabafaaLObPr
namespace Go.Proofs.Ytpjfhbmegabafaa
open Go.RowKit
open Go.Maps (Keyed)
attribute [local irreducible] Sha.compress Sha.blocks Sha.sha Sha.pad

def hkPairs (ks : List (List UInt8 × ByteArray)) : List (Value × Value) := ks.zipIdx.map fun p => (.agg (byteCells p.1.1).toArray, .int .i64 (p.2 : Int))
theorem hkPairs_miss {ks : List (List UInt8 × ByteArray)} {k : List UInt8} (h : mapGet (hkPairs ks) (.agg (byteCells k).toArray) none) : ∀ p ∈ ks, p.1 ≠ k := by
  intro p hp e
  obtain ⟨i, hi, e2⟩ := List.mem_iff_getElem.1 hp
  refine h (.agg (byteCells k).toArray, .int .i64 (i : Int)) (List.mem_map.2 ⟨(p, i), ?_, by rw [e]⟩) rfl
  rw [List.mem_zipIdx_iff_getElem?]
  rw [List.getElem?_eq_getElem hi, e2]
theorem hkPairs_hit {ks : List (List UInt8 × ByteArray)} {k : List UInt8} {v : Value} (h : mapGet (hkPairs ks) (.agg (byteCells k).toArray) (some v)) : ∃ (i : Nat) (x : ByteArray), ks[i]? = some (k, x) ∧ v = .int .i64 (i : Int) := by
  obtain ⟨p, hp, e1, e2⟩ := h
  obtain ⟨q, hq, rfl⟩ := List.mem_map.1 hp
  rw [List.mem_zipIdx_iff_getElem?] at hq
  injection e1 with e1
  have e3 : byteCells q.1.1 = byteCells k := by have := congrArg Array.toList e1; simpa using this
  refine ⟨q.2, q.1.2, ?_, e2.symm⟩
  rw [← byteCells_inj e3]
  exact hq
theorem hkPairs_more (ks : List (List UInt8 × ByteArray)) (k : List UInt8) (x : ByteArray) : hkPairs (ks ++ [(k, x)]) = hkPairs ks ++ [(.agg (byteCells k).toArray, .int .i64 (ks.length : Int))] := by
  unfold hkPairs
  rw [List.zipIdx_append, List.map_append]
  simp
theorem hkPairs_keys (ks : List (List UInt8 × ByteArray)) (hs : ∀ p ∈ ks, p.1.length = 32) : ∀ p ∈ hkPairs ks, ∃ l, keyOf Try.prog 33 p.1 = some l := fun p hp => by
  obtain ⟨q, hq, rfl⟩ := List.mem_map.1 hp
  rw [List.mem_zipIdx_iff_getElem?] at hq
  exact hash_key _ (hs _ (List.mem_of_getElem? hq))
/-- A row of texts by their hashes. -/
structure HkRow (w : World) (r B : Nat) (M : Option Nat) (A : Option Addr) (c : Nat) (ks : List (List UInt8 × ByteArray)) : Prop where
  cell : Holds w r 144 [.map M, .slice A ks.length c]
  map : (M = none ∧ ks = []) ∨ ∃ mb, M = some mb ∧ MapAt w mb (hkPairs ks)
  row : w.ownsRow B 9 1 (.slice A ks.length c) ks.length (strs (ks.map (·.2)))
  len : ∀ p ∈ ks, p.1.length = 32
  uniq : (ks.map (·.1)).Nodup
theorem HkRow.look {w : World} {r B c : Nat} {M : Option Nat} {A : Option Addr} {ks : List (List UInt8 × ByteArray)} (h : HkRow w r B M A c ks) (k : List UInt8) (hk : k.length = 32) :
    (∃ (i : Nat) (x : ByteArray), ks[i]? = some (k, x) ∧ (Instr.lookup 140 (.map M) (.agg (byteCells k).toArray) true).run Try.prog w = .ok (.tuple #[.int .i64 (i : Int), .bool true]) w) ∨ ((∀ p ∈ ks, p.1 ≠ k) ∧ (Instr.lookup 140 (.map M) (.agg (byteCells k).toArray) true).run Try.prog w = .ok (.tuple #[.int .i64 0, .bool false]) w) := by
  obtain ⟨kl, hkey⟩ := hash_key k hk
  rcases h.map with ⟨rfl, rfl⟩ | ⟨mb, rfl, hm⟩
  · rcases hash_keyed.find w hkey [] (by simp) with ⟨h1, _⟩ | ⟨j, e0, _, h2, _⟩
    · exact .inr ⟨by simp, by simp [Instr.lookup, run_underlying Try.underlying140, hash_keyed.check w _ hkey, h1, Result.andThen]⟩
    · simp at h2
  · rcases hm.look (P := Try.prog) true hash_keyed (hkPairs_keys ks h.len) Try.underlying140 (intZero w) hkey with ⟨h1, h2⟩ | ⟨v, h1, h2⟩
    · exact .inr ⟨hkPairs_miss h2, h1⟩
    · obtain ⟨i, x, hi, rfl⟩ := hkPairs_hit h2
      exact .inl ⟨i, x, hi, h1⟩
theorem yieldsIf_lookup {P : Program} {ops : Array Oper} {S : World → Prop} {o : Oper} {a : Act} {M k v : Value} (ty : TypeId) (m x : Operand) (c : Bool) (hg : o.guard = none) (ho : o.op = .lookup ty m x c) (hm : a.eval m = M) (hx : a.eval x = k) (hrun : ∀ V, S V → (Instr.lookup ty M k c).run P V = .ok v V) : YieldsIf P ops S o v a :=
  .inl ⟨by simp [Region.wanted, hg], fun V hS => by unfold execOp; simp only [ho, hm, hx, Sem.run_bind, hrun V hS, Result.andThen_ok, Sem.run_pure]⟩

set_option maxRecDepth 100000 in
set_option maxHeartbeats 1000000 in
theorem hkGet_any (r B : Nat) (M : Option Nat) (A : Option Addr) (c : Nat) (ks : List (List UInt8 × ByteArray)) (k : List UInt8) (hk : k.length = 32) (hn : ks.length ≤ 8796093021952) (w : World) (h : HkRow w r B M A c ks) :
    Calls Try.prog 90 #[.pointer (some ⟨r, 0, none⟩), .agg (byteCells k).toArray] w fun e w' => ((∃ x, (k, x) ∈ ks ∧ e = .returned (.tuple #[.string x, .bool true])) ∨ ((∀ p ∈ ks, p.1 ≠ k) ∧ e = .returned (.tuple #[.string ⟨#[]⟩, .bool false]))) ∧ Below w.heap.size w w' := by
  have hC := hid (hash_cells k hk)
  obtain ⟨W0, hW0⟩ : ∃ V, w.alloc (.cells (byteCells k).toArray 33) = V := ⟨_, rfl⟩
  have hb0 : Below w.heap.size w W0 := by rw [← hW0]; exact (Below.refl _ _).alloc (Nat.le_refl _) _
  have hX := hid (show Holds W0 w.heap.size 33 (byteCells k) from by rw [← hW0]; exact Holds.new w _ (byteCells k).toArray)
  have hR : HkRow W0 r B M A c ks := ⟨h.cell.below hb0 h.cell.lt, h.map.imp id (fun ⟨mb, e, hm⟩ => ⟨mb, e, hm.on hb0⟩), rown_onF h.row hb0, h.len, h.uniq⟩
  have hRd : HkRow W0.drew r B M A c ks := ⟨hR.cell, hR.map, rown_onF hR.row ((Below.refl W0.heap.size W0).drew), hR.len, hR.uniq⟩
  have hlk0 := hRd.look k hk
  have hR2 := hid hRd
  have hR' := hid hR
  have hb0' := hid hb0
  have hW0' := hid hW0
  have hn' := hid hn
  have hL := hid (show Holds W0.drew r 144 [.map M, .slice A ks.length c] from hR.cell)
  have hXd := hid (show Holds W0.drew w.heap.size 33 (byteCells k) from hX.out)
  have hbf := hid (show Below w.heap.size w W0.drew from hb0.trans ((Below.refl w.heap.size W0).drew))
  clear hb0 hW0 hR hRd h hn hk
  obtain ⟨g, hg⟩ : ∃ g, w.heap.size = g := ⟨_, rfl⟩
  have hg' := hid hg
  rw [hg] at hX hXd
  clear hg
  rcases hlk0 with ⟨i, x, hi, hlk⟩ | ⟨hno, hlk⟩
  · have hi' := hid hi
    clear hi
    go_enter Try.func90, Try.ntmps90
    go_wp2_with (first
      | ((with_reducible refine at_slot (some 3) ?_); refine wpList_run rfl (.pointer (some ⟨g, 0, none⟩)) (w.alloc (.cells (byteCells k).toArray 33)) (by rw [← hg'.out]; kernel_rfl) ?_; rw [hW0'.out])
      | fail)
    have c0 := hL.out.cO 0 _ rfl
    refine wp_region_held_drew (S := fun V => V.cell? ⟨r, 0, none⟩ = some (.map M) ∧ Holds V g 33 (byteCells k) ∧ (Instr.lookup 140 (.map M) (.agg (byteCells k).toArray) true).run Try.prog V = .ok (.tuple #[.int .i64 (i : Int), .bool true]) V) (by kernel_rfl) ⟨c0, hXd.out, hlk⟩ (fun hHeld => ?_)
    clear c0 hlk
    generalize W0.drew = Wd at *
    refine tkx 0 (.pointer (some ⟨r, 0, none⟩)) hHeld ?_; simp only [ly, Act.put]
    refine tkx 1 (.pointer (some ⟨r, 0, none⟩)) hHeld ?_; simp only [ly, Act.put]
    refine tkx 2 (.pointer (some ⟨r, 0, none⟩)) hHeld ?_; simp only [ly, Act.put]
    refine tkx 3 (.map M) hHeld ?_ (hy := .inl ⟨by kernel_rfl, fun V hS => by have c1 := hS.1; go_simp⟩); simp only [ly, Act.put]
    refine tkx 4 (.agg (byteCells k).toArray) hHeld ?_ (hy := yieldsIf_load_any (by kernel_rfl) _ _ rfl ⟨g, 0, none⟩ rfl (byteCells k) _ (fun V hS => hS.2.1.anyO) Try.underlying33 rfl (by exact hC.out.size')); simp only [ly, Act.put]
    refine tkx 5 (.tuple #[.int .i64 (i : Int), .bool true]) hHeld ?_ (hy := yieldsIf_lookup 140 (.tmp 13) (.tmp 14) true rfl rfl rfl rfl (fun V hS => hS.2.2)); simp only [ly, Act.put]
    refine tkx 6 (.tuple #[.int .i64 (i : Int), .bool true]) hHeld ?_; simp only [ly, Act.put]
    refine tkx 7 (.int .i64 (i : Int)) hHeld ?_; simp only [ly, Act.put]
    refine tkx 8 (.bool true) hHeld ?_; simp only [ly, Act.put]
    refine tkx 9 (.int .i64 (i : Int)) hHeld ?_; simp only [ly, Act.put]
    refine tkx 10 (.bool true) hHeld ?_; simp only [ly, Act.put]
    refine wpAnyH_done (by kernel_rfl) ?_ _
    obtain ⟨b, hA, hT, -, -, hlen⟩ := own_txts hR2.out.row
    have hil : i < ks.length := (List.getElem?_eq_some_iff.1 hi'.out).1
    obtain rfl := hA (by omega)
    have hcell := (hT (by omega)).cell (i := i) (x := x) (by rw [List.getElem?_map, hi'.out]; rfl)
    have c1 := hL.out.cO 1 _ rfl
    have hii : (i : Int) < (ks.length : Int) := by omega
    have hi0 : (0 : Int) ≤ (i : Int) := by omega
    clear hA hT hHeld
    go_wp2_with fail
    go_ret2
    exact ⟨.inl ⟨x, List.mem_of_getElem? hi'.out, rfl⟩, hbf.out⟩
  · have hno' := hid hno
    clear hno
    go_enter Try.func90, Try.ntmps90
    go_wp2_with (first
      | ((with_reducible refine at_slot (some 3) ?_); refine wpList_run rfl (.pointer (some ⟨g, 0, none⟩)) (w.alloc (.cells (byteCells k).toArray 33)) (by rw [← hg'.out]; kernel_rfl) ?_; rw [hW0'.out])
      | fail)
    have c0 := hL.out.cO 0 _ rfl
    refine wp_region_held_drew (S := fun V => V.cell? ⟨r, 0, none⟩ = some (.map M) ∧ Holds V g 33 (byteCells k) ∧ (Instr.lookup 140 (.map M) (.agg (byteCells k).toArray) true).run Try.prog V = .ok (.tuple #[.int .i64 0, .bool false]) V) (by kernel_rfl) ⟨c0, hXd.out, hlk⟩ (fun hHeld => ?_)
    clear c0 hlk
    generalize W0.drew = Wd at *
    refine tkx 0 (.pointer (some ⟨r, 0, none⟩)) hHeld ?_; simp only [ly, Act.put]
    refine tkx 1 (.pointer (some ⟨r, 0, none⟩)) hHeld ?_; simp only [ly, Act.put]
    refine tkx 2 (.pointer (some ⟨r, 0, none⟩)) hHeld ?_; simp only [ly, Act.put]
    refine tkx 3 (.map M) hHeld ?_ (hy := .inl ⟨by kernel_rfl, fun V hS => by have c1 := hS.1; go_simp⟩); simp only [ly, Act.put]
    refine tkx 4 (.agg (byteCells k).toArray) hHeld ?_ (hy := yieldsIf_load_any (by kernel_rfl) _ _ rfl ⟨g, 0, none⟩ rfl (byteCells k) _ (fun V hS => hS.2.1.anyO) Try.underlying33 rfl (by exact hC.out.size')); simp only [ly, Act.put]
    refine tkx 5 (.tuple #[.int .i64 0, .bool false]) hHeld ?_ (hy := yieldsIf_lookup 140 (.tmp 13) (.tmp 14) true rfl rfl rfl rfl (fun V hS => hS.2.2)); simp only [ly, Act.put]
    refine tkx 6 (.tuple #[.int .i64 0, .bool false]) hHeld ?_; simp only [ly, Act.put]
    refine tkx 7 (.int .i64 0) hHeld ?_; simp only [ly, Act.put]
    refine tkx 8 (.bool false) hHeld ?_; simp only [ly, Act.put]
    refine tkx 9 (.int .i64 0) hHeld ?_; simp only [ly, Act.put]
    refine tkx 10 (.bool false) hHeld ?_; simp only [ly, Act.put]
    refine wpAnyH_done (by kernel_rfl) ?_ _
    clear hHeld
    go_wp2_with fail
    go_ret2
    exact ⟨.inr ⟨hno'.out, rfl⟩, hbf.out⟩

end Go.Proofs.Ytpjfhbmegabafaa
namespace Go.Proofs.Ytpjfhbmegabafaa
open Go.RowKit
open Go.Maps (Keyed)
attribute [local irreducible] Sha.compress Sha.blocks Sha.sha Sha.pad

open Classical in
noncomputable def addK (ks : List (List UInt8 × ByteArray)) (k : List UInt8) (x : ByteArray) : List (List UInt8 × ByteArray) := if ∀ p ∈ ks, p.1 ≠ k then ks ++ [(k, x)] else ks
theorem addK_new {ks : List (List UInt8 × ByteArray)} {k : List UInt8} {x : ByteArray} (h : ∀ p ∈ ks, p.1 ≠ k) : addK ks k x = ks ++ [(k, x)] := if_pos h
theorem addK_old {ks : List (List UInt8 × ByteArray)} {k : List UInt8} {x : ByteArray} (h : ¬ ∀ p ∈ ks, p.1 ≠ k) : addK ks k x = ks := if_neg h
/-- What stands behind a put. -/
structure HkPut (w w' : World) (r B : Nat) (M : Option Nat) (A : Option Addr) (c : Nat) (ks : List (List UInt8 × ByteArray)) (k : List UInt8) (x : ByteArray) (M' : Option Nat) (A' : Option Addr) (c' : Nat) : Prop where
  row : HkRow w' r B M' A' c' (addK ks k x)
  turn : TurnS (fun q => q = r ∨ TOwn M A ks.length c q) w w'
  fresh : ∀ q, TOwn M' A' (addK ks k x).length c' q → TOwn M A ks.length c q ∨ w.heap.size ≤ q
theorem HkRow.old {w w' : World} {r B c : Nat} {M : Option Nat} {A : Option Addr} {ks : List (List UInt8 × ByteArray)} {k : List UInt8} {x : ByteArray} (h : HkRow w' r B M A c ks) (hb : Below w.heap.size w w') (hx : ¬ ∀ p ∈ ks, p.1 ≠ k) : HkPut w w' r B M A c ks k x M A c := by
  refine ⟨?_, TurnS.of_below hb, ?_⟩
  · rw [addK_old hx]; exact h
  · rw [addK_old hx]; exact fun k hk => .inl hk
theorem hkput_end {w W0 W1 W2 W3 : World} {r B c mb : Nat} {M : Option Nat} {A A2 : Option Addr} {c2 m : Nat} {ks : List (List UInt8 × ByteArray)} {k : List UInt8} {x : ByteArray} (hln : ∀ p ∈ ks, p.1.length = 32) (hun : (ks.map (·.1)).Nodup) (hx : ∀ p ∈ ks, p.1 ≠ k) (hk : k.length = 32) (hmr : mb ≠ r) (hm : ks.length + 1 = m) (hmo : M = some mb ∨ w.heap.size ≤ mb)
    (h0 : Holds W0 r 144 [.map (some mb), .slice A ks.length c]) (hT0 : TurnS (fun k => k = r) w W0) (hM1 : MapAt W1 mb (hkPairs ks ++ [(.agg (byteCells k).toArray, .int .i64 (ks.length : Int))])) (hg1 : W0.grownBy W1 (some mb))
    (hrow1 : W1.ownsRow B 9 1 (.slice A ks.length c) ks.length (strs (ks.map (·.2)))) (hrow : W2.ownsRow B 9 1 (.slice A2 m c2) m (strs (ks.map (·.2) ++ [x]))) (hg2 : W1.grownBy W2 (Value.slice A ks.length c).ownBlock) (hF : Fresh W1 (Value.slice A ks.length c).ownBlock (Value.slice A2 m c2).ownBlock)
    (e : W2.setCell ⟨r, 1, none⟩ (.slice A2 m c2) = W3) : HkPut w W3 r B M A c ks k x (some mb) A2 c2 := by
  subst hm
  have h1 : Holds W1 r 144 [.map (some mb), .slice A ks.length c] := h0.grown hg1 (fun e => hmr (Option.some.inj e).symm)
  have hne : ∀ k, (Value.slice A ks.length c).ownBlock = some k → k ≠ r := fun k e => own_neF hrow1 e h1 (by decide)
  have h2 : Holds W2 r 144 [.map (some mb), .slice A ks.length c] := h1.grown hg2 (fun e => hne r e.symm rfl)
  have hmn : (Value.slice A ks.length c).ownBlock ≠ some mb := fun e => by
    obtain ⟨es, cl, hb, _⟩ := hM1
    obtain ⟨cs, _, _, h3⟩ := own_cells hrow1 e
    rw [hb] at h3
    cases h3
  have hmb2 := hM1.block (hg2.block mb hM1.lt (fun e => hmn e.symm))
  have hne2 : ∀ k, (Value.slice A2 (ks.length + 1) c2).ownBlock = some k → k ≠ r := fun k e => own_neF hrow e h2 (by decide)
  subst e
  refine ⟨?_, ⟨hg2.os.trans (hg1.os.trans hT0.os), hg2.tape.trans (hg1.tape.trans hT0.tape), hg2.output.trans (hg1.output.trans hT0.output), by rw [World.size_setCell]; exact Nat.le_trans hT0.size (Nat.le_trans hg1.size hg2.size), fun k hk hq => ?_⟩, fun k hk => ?_⟩
  · rw [addK_new hx]
    refine ⟨?_, .inr ⟨mb, rfl, ?_⟩, ?_, fun y hy => ?_, ?_⟩
    · rw [List.length_append]
      exact h2.set 1 _
    · rw [hkPairs_more]
      exact hmb2.far ⟨r, 1, none⟩ hmr _
    · rw [List.length_append, List.map_append]
      exact rown_block hrow fun k hk => heap_setCell_other _ _ _ _ (hne2 k hk)
    · rcases List.mem_append.1 hy with h3 | h3
      · exact hln y h3
      · rw [List.mem_singleton.1 h3]; exact hk
    · rw [List.map_append, List.nodup_append]
      refine ⟨hun, by simp, fun a ha b hb e => ?_⟩
      obtain ⟨p, hp, rfl⟩ := List.mem_map.1 ha
      rw [List.map_cons, List.map_nil, List.mem_singleton] at hb
      exact hx p hp (e.trans hb)
  · refine (heap_setCell_other _ _ _ _ (fun e => hq (.inl e))).trans ?_
    refine (hg2.block k (Nat.lt_of_lt_of_le hk (Nat.le_trans hT0.size hg1.size)) (fun e => hq (.inr (.inr e.symm)))).trans ?_
    refine (hg1.block k (Nat.lt_of_lt_of_le hk hT0.size) (fun e => ?_)).trans (hT0.block k hk (fun e => hq (.inl e)))
    have e2 := Option.some.inj e
    rcases hmo with h3 | h3
    · exact hq (.inr (.inl (by rw [h3, e2])))
    · omega
  · rw [addK_new hx, List.length_append] at hk
    rcases hk with h3 | h3
    · have e2 := Option.some.inj h3
      exact hmo.imp (fun h4 => .inl (by rw [h4, e2])) (fun h4 => by omega)
    · rcases hF with e2 | ⟨q, e2, hq⟩
      · exact .inl (.inr (by rw [← e2]; exact h3))
      · have e3 : some q = some k := e2.symm.trans h3
        exact .inr (by have := Option.some.inj e3; have := hT0.size; have := hg1.size; omega)

end Go.Proofs.Ytpjfhbmegabafaa
