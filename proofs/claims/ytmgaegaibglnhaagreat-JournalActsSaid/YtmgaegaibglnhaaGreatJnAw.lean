/- A hash that is handed in.
   Layer 8: what a journal's disk is; opened, written, synced.
   Layer 8: the statements' SameRecords, of like records.
   Layer 8: records that are handed in.
   Layer 8: what every program answers that is one. -/
import Derived.Test.YtmgaegaibglnhaaGreatHashR
import Derived.ChangeArms
import Derived.OpenShut
import Derived.DataReads
import Derived.ProofKit
import Derived.ChangeOld
import Derived.Test.YtmgaegaibglnhaaGreatJnPr
import Derived.Test.YtmgaegaibglnhaaGreatJnPl
import Derived.Stop.BytesEq
import Derived.Deep.Slices
namespace Go.Proofs.YtmgaegaibglnhaaGreat
open Go.RowKit

section
variable {H : Type} {enc : TypeId × Value → H} {w : World} {base : Nat} {spare : Nat → Bool} {held : Bool}
open Go.ChangeShapes Go.WideShapes Go.Deep

theorem open_hash {fuel : Nat} {cs : List Value} {x : DataW H × List MemPlace} (h : DataW.trod enc Tryz.prog w base spare held fuel 55 cs = some x) : ∃ s : List UInt8, cs = byteCells s ∧ s.length = 32 := by
  have hH : Tryz.prog.cellsOf 55 = 32 := by kernel_rfl
  have h1 : Tryz.prog.cellsOf 5 = 1 := by kernel_rfl
  obtain ⟨xs, m, _, _, hl, hlen, hi⟩ := DataW.trod_array Tryz.underlying55 h
  rw [hH] at hl
  have hall : ∀ i, i < 32 → ∃ b : UInt8, cs[i]? = some (.int .u8 (b.toNat : Int)) := by
    intro i hin
    have h2 := hi i hin
    rw [h1, Nat.mul_one] at h2
    have hx : xs[i]? = some (xs[i]'(by omega)) := List.getElem?_eq_getElem (by omega)
    obtain ⟨z, hz, _, hw⟩ := DataW.trod_int Tryz.underlying5 (h2.trans hx)
    have hd : (cs.drop i).take 1 = [cs[i]'(by omega)] := by
      rw [List.drop_eq_getElem_cons (by omega)]
      rfl
    rw [hd] at hz
    injection hz with hz
    have hr : 0 ≤ z ∧ z < 256 := by
      simp [Lit.wf] at hw
      have e0 : IntKind.u8.min = 0 := rfl
      have e1 : IntKind.u8.max = 255 := rfl
      omega
    have hb : ((UInt8.ofNat z.toNat).toNat : Int) = z := by
      have : (UInt8.ofNat z.toNat).toNat = z.toNat := by simp; omega
      omega
    exact ⟨UInt8.ofNat z.toNat, by rw [List.getElem?_eq_getElem (by omega), hz, hb]⟩
  let f : Nat → UInt8 := fun i => match cs[i]? with | some (.int .u8 z) => UInt8.ofNat z.toNat | _ => 0
  refine ⟨(List.range 32).map f, ?_, by simp⟩
  apply List.ext_getElem?
  intro i
  unfold byteCells
  rw [List.map_map, List.getElem?_map]
  by_cases hin : i < 32
  · obtain ⟨b, hb⟩ := hall i hin
    have hfi : f i = b := by
      show (match cs[i]? with | some (.int .u8 z) => UInt8.ofNat z.toNat | _ => 0) = b
      rw [hb]
      show UInt8.ofNat ((b.toNat : Int).toNat) = b
      rw [Int.toNat_natCast]
      simp
    rw [hb, List.getElem?_range hin, Option.map_some]
    show _ = some (Value.int .u8 ((f i).toNat : Int))
    rw [hfi]
  · rw [List.getElem?_eq_none (by omega), List.getElem?_eq_none (by simp; omega)]
    rfl

end

end Go.Proofs.YtmgaegaibglnhaaGreat
namespace Go.Proofs.YtmgaegaibglnhaaGreat
open Go.RowKit
attribute [local irreducible] Sha.compress Sha.blocks Sha.sha Sha.pad

theorem writeS_fine {D : Dk} {n u k : Nat} {t : ByteArray} (hD : D.fine n) (hu : u + k ≤ n) (ht : t.size = k * 64) {i : Nat} (hi : i ≤ k) : (writeS D u t i).fine n := by
  induction i with
  | zero => exact hD
  | succ i ih => exact (ih (by omega)).write (by omega) (by rw [ByteArray.size_extract]; omega)
theorem writeS_at {D : Dk} {n u k : Nat} {t : ByteArray} (hD : D.fine n) (hu : u + k ≤ n) (ht : t.size = k * 64) {i : Nat} (hi : i ≤ k) (q : Nat) :
    (writeS D u t i).xs[q]? = if u ≤ q ∧ q < u + i then some (t.extract ((q - u) * 64) ((q - u + 1) * 64)) else D.xs[q]? := by
  induction i with
  | zero => rw [if_neg (by omega)]; rfl
  | succ i ih =>
    have hf := writeS_fine hD hu ht (i := i) (by omega)
    show ((writeS D u t i).xs.set (u + i) (t.extract (i * 64) ((i + 1) * 64)))[q]? = _
    by_cases e : u + i = q
    · subst e
      rw [List.getElem?_set_self (by rw [hf.len]; omega), if_pos (by omega), Nat.add_sub_cancel_left]
    · rw [List.getElem?_set_ne e, ih (by omega)]
      by_cases h : u ≤ q ∧ q < u + i
      · rw [if_pos h, if_pos (by omega)]
      · rw [if_neg h, if_neg (by omega)]
/-- A disk on which a journal stands, and behind it nothing. -/
structure JOk (D : Dk) (n : Nat) (l : Stood) (st : JSt) : Prop where
  fine : D.fine n
  chain : stand D.xs JSt.start (bare l) = some st
  blank : Blank D.xs st.used
section
variable {D : Dk} {n : Nat} {l l2 : Stood} {st st2 : JSt}
theorem JOk.facts (h : JOk D n l st) : st.prev.length = 32 ∧ st.seq = l.length ∧ st.used ≤ n := by
  have ho := stand_over h.chain
  have hf := over_fine l
  rw [← ho] at hf
  refine ⟨hf.1, hf.2.1, ?_⟩
  have := stand_used h.fine.secs h.chain (Nat.zero_le _)
  rw [h.fine.len] at this
  exact this
theorem JOk.none (h : JOk D n l st) : nextS D.xs st = none := blank_none h.blank
theorem bare_inj (h : bare l = bare l2) : l = l2 := by
  induction l generalizing l2 with
  | nil =>
    cases l2 with
    | nil => rfl
    | cons y l2 => cases h
  | cons x l ih =>
    cases l2 with
    | nil => cases h
    | cons y l2 =>
      unfold bare at h
      rw [List.map_cons, List.map_cons] at h
      injection h with h1 h2
      rw [Subtype.ext h1, ih h2]
theorem JOk.one (h : JOk D n l st) (h2 : stand D.xs JSt.start (bare l2) = some st2) (hn : nextS D.xs st2 = .none) : l2 = l ∧ st2 = st := by
  obtain ⟨a, b⟩ := stands_one h2 hn h.chain h.none
  exact ⟨bare_inj a, b⟩
theorem JOk.sync (h : JOk D n l st) : JOk D.sync n l st := ⟨h.fine.sync, h.chain, h.blank⟩
theorem JOk.wiped (hD : D.fine n) (h2 : stand D.xs JSt.start (bare l) = some st) : JOk (D.wiped st.used) n l st := by
  have hu := stand_used hD.secs h2 (Nat.zero_le _)
  have hl : (D.wiped st.used).xs.length = D.xs.length := by
    show (D.xs.take st.used ++ List.replicate (D.xs.length - st.used) (zeroS 64)).length = _
    rw [List.length_append, List.length_take, List.length_replicate]
    omega
  have hat : ∀ i, i < st.used → (D.wiped st.used).xs[i]? = D.xs[i]? := fun i hi => by
    show (D.xs.take st.used ++ List.replicate (D.xs.length - st.used) (zeroS 64))[i]? = _
    rw [List.getElem?_append_left (by rw [List.length_take]; omega), List.getElem?_take_of_lt hi]
  have hbk : Blank (D.wiped st.used).xs st.used := fun k s hk hs => by
    have hs : (D.xs.take st.used ++ List.replicate (D.xs.length - st.used) (zeroS 64))[k]? = some s := hs
    rw [List.getElem?_append_right (by rw [List.length_take]; omega), List.getElem?_replicate] at hs
    split at hs
    · exact (Option.some.inj hs).symm
    · cases hs
  refine ⟨⟨by rw [hl]; exact hD.len, fun s hs => ?_, OldsOk.nil n⟩, stand_agree hD.secs ⟨hl, hat⟩ h2 (Nat.le_refl _), hbk⟩
  have hs : s ∈ D.xs.take st.used ++ List.replicate (D.xs.length - st.used) (zeroS 64) := hs
  rcases List.mem_append.1 hs with h | h
  · exact hD.secs s (List.mem_of_mem_take h)
  · rw [(List.mem_replicate.1 h).2]
    exact zeroS_size 64
/-- A record that may be, with its bytes. -/
def asRB (st : JSt) (R : Rec) (h : sealMay (st.seq : Int) R = true) : RB := ⟨(R, recBytes st.prev st.seq R.kind.toNat R.data), by
  have h5 := (sealMay_iff.1 h).2.2.2.2
  have h1 := wholes_ge (41 + R.data.size)
  have h2 := wholes_lt (41 + R.data.size)
  have h3 := recBytes_size st.prev st.seq R.kind.toNat R.data
  exact ⟨by show 41 + R.data.size ≤ (recBytes st.prev st.seq R.kind.toNat R.data).size; omega, by show (recBytes st.prev st.seq R.kind.toNat R.data).size ≤ 10000; omega⟩⟩
theorem JOk.append (h : JOk D n l st) (R : Rec) (hm : sealMay (st.seq : Int) R = true) (hf : st.used + wholes (41 + R.data.size) ≤ n) :
    JOk (writeS D st.used (recBytes st.prev st.seq R.kind.toNat R.data) (wholes (41 + R.data.size))) n (l ++ [asRB st R hm]) (st.pass R (recBytes st.prev st.seq R.kind.toNat R.data)) := by
  have hz := recBytes_size st.prev st.seq R.kind.toNat R.data
  have hwf := writeS_fine h.fine hf hz (Nat.le_refl _)
  have hat := writeS_at h.fine hf hz (i := wholes (41 + R.data.size)) (Nat.le_refl _)
  have hu : (st.pass R (recBytes st.prev st.seq R.kind.toNat R.data)).used = st.used + wholes (41 + R.data.size) := by
    show st.used + (recBytes st.prev st.seq R.kind.toNat R.data).size / 64 = _
    rw [hz, Nat.mul_div_cancel _ (by decide)]
  refine ⟨hwf, ?_, fun k s hk hs => ?_⟩
  · rw [bare_snoc]
    refine stand_snoc (stand_agree h.fine.secs ⟨hwf.len.trans h.fine.len.symm, fun i hi => ?_⟩ h.chain (Nat.le_refl _)) (next_written hm ⟨hz, by rw [hwf.len]; exact hf, fun i hi => ?_⟩)
    · rw [hat i, if_neg (by omega)]
    · rw [hat, if_pos (by omega), Nat.add_sub_cancel_left]
  · rw [hu] at hk
    rw [hat, if_neg (by omega)] at hs
    exact h.blank k s (by omega) hs
theorem JOk.new (n : Nat) : JOk (Dk.new n) n [] JSt.start := ⟨Dk.fine.new n, rfl, fun k s _ hs => by
  have hs : (List.replicate n (zeroS 64))[k]? = some s := hs
  rw [List.getElem?_replicate] at hs
  split at hs
  · exact (Option.some.inj hs).symm
  · cases hs⟩
end

end Go.Proofs.YtmgaegaibglnhaaGreat
namespace Go.Proofs.YtmgaegaibglnhaaGreat
open Go.RowKit
open Go.Lib (strCells strCells_length strCells_oneCell)

/-- The slice that begins at A reads as these records; they lie below block B. -/
def RecsA (w : World) (B : Nat) (A : Option Addr) (n : Nat) (xs : List Rec) : Prop :=
  xs.length = n ∧ (n = 0 ∨ ∃ p : Addr, A = some p ∧ p.block < B ∧ ∀ i (hi : i < xs.length), ∀ j v, (recV xs[i])[j]? = some v → w.cell? ((p.add (i * 2)).add j) = some v)
section
variable {w w' : World} {B B' : Nat} {A : Option Addr} {n : Nat} {xs : List Rec}
theorem RecsA.below (h : RecsA w B A n xs) (hb : Below B w w') : RecsA w' B A n xs := by
  obtain ⟨h1, h3⟩ := h
  refine ⟨h1, ?_⟩
  rcases h3 with h3 | ⟨p, hA, hB, hc⟩
  · exact .inl h3
  · exact .inr ⟨p, hA, hB, fun i hi j v hv => (hb.cell (by rw [add_block, add_block]; exact hB)).trans (hc i hi j v hv)⟩
theorem RecsA.more (h : RecsA w B A n xs) (hB : B ≤ B') : RecsA w B' A n xs := by
  obtain ⟨h1, h3⟩ := h
  refine ⟨h1, ?_⟩
  rcases h3 with h3 | ⟨p, hA, hb, hc⟩
  · exact .inl h3
  · exact .inr ⟨p, hA, Nat.lt_of_lt_of_le hb hB, hc⟩
theorem RecsA.on (h : RecsA w w.heap.size A n xs) (hb : Below w.heap.size w w') : RecsA w' w'.heap.size A n xs := (h.below hb).more hb.size
theorem RecsA.get (h : RecsA w B A n xs) {k : Nat} (hk : k < n) : ∃ p x, A = some p ∧ p.block < B ∧ xs[k]? = some x ∧ ∀ j v, (recV x)[j]? = some v → w.cell? ((p.add (k * 2)).add j) = some v := by
  obtain ⟨h1, h3 | ⟨p, hA, hB, hc⟩⟩ := h
  · omega
  · exact ⟨p, xs[k]'(by omega), hA, hB, List.getElem?_eq_getElem _, hc k (by omega)⟩
theorem recL_at : ∀ (xs : List Rec) (i : Nat) (x : Rec) (_ : xs[i]? = some x) (j : Nat) (_ : j < 2), (xs.flatMap recV)[i * 2 + j]? = (recV x)[j]?
  | [], _, _, h, _, _ => by simp at h
  | y :: xs, 0, x, h, j, hj => by
    have e : y = x := by simpa using h
    subst e
    rw [List.flatMap_cons, Nat.zero_mul, Nat.zero_add, List.getElem?_append_left (by show j < 2; exact hj)]
  | y :: xs, i + 1, x, h, j, hj => by
    have ih := recL_at xs i x (by simpa using h) j hj
    rw [List.flatMap_cons, List.getElem?_append_right (by show 2 ≤ _; omega), ← ih]
    congr 1
    show (i + 1) * 2 + j - 2 = _
    omega
theorem RecsA.of_at (h : At w B 2 A n (xs.flatMap recV)) (hl : xs.length = n) : RecsA w B A n xs := by
  obtain ⟨h1, h3⟩ := h
  refine ⟨hl, ?_⟩
  rcases h3 with h3 | ⟨p, hA, hB, hc⟩
  · exact .inl h3
  · refine .inr ⟨p, hA, hB, fun i hi j v hv => ?_⟩
    have hj : j < 2 := (List.getElem?_eq_some_iff.1 hv).1
    have e := recL_at xs i xs[i] (List.getElem?_eq_getElem hi) j hj
    rw [hv] at e
    obtain ⟨h5, h6⟩ := List.getElem?_eq_some_iff.1 e
    rw [add_add, hc _ h5, h6]
theorem RecsA.of_row {c : Nat} {l : Stood} (h : w.ownsRow B 37 2 (.slice A l.length c) l.length (recsV l)) : RecsA w w.heap.size A l.length (l.map (·.1.1)) := by
  have e : recsV l = (l.map (·.1.1)).flatMap recV := by unfold recsV; rw [List.flatMap_map]
  rw [e] at h
  exact .of_at (At.of_own h) (by rw [List.length_map])
end
set_option maxRecDepth 100000 in
theorem rec_neq (x : Rec) (w : World) : (binOp .neq 37 (.agg (recV x).toArray) (.agg (recV x).toArray)).run Tryz.prog w = .ok (.bool false) w := by
  have hS : Tryz.prog.underlying 37 = some (.struct (Tryz.prog.fieldsOf 37)) := by kernel_rfl
  have hp : Tryz.prog.stoodInHeld 37 = false := by kernel_rfl
  have hi : ∀ (a : Int) (w : World), (Op.equalIn 9999 3 (.int .i64 a) (.int .i64 a)).run Tryz.prog w = .ok true w := fun a w => by
    have h := run_equalIn_int (P := Tryz.prog) w 9998 3 .i64 .i64 a a Tryz.underlying3
    rw [beq_self_eq_true] at h
    exact h
  have hs : ∀ (s : ByteArray) (w : World), (Op.equalIn 9999 9 (.string s) (.string s)).run Tryz.prog w = .ok true w := fun s w => by
    have h := run_equalIn_string (P := Tryz.prog) w 9998 9 s s Tryz.underlying9
    rw [beq_self_eq_true] at h
    exact h
  have h0 : (recV x).toArray[0]? = some (.int .i64 x.kind) := rfl
  have h1 : (recV x).toArray[1]? = some (.string x.data) := rfl
  have hz : (recV x).toArray.size = 2 := rfl
  generalize (recV x).toArray = C at h0 h1 hz ⊢
  rw [run_neq_struct, show (10000 : Nat) = 9999 + 1 from rfl, run_equalIn_struct w 9999 _ _ _ hS hp]
  simp only [Program.fieldsOf, Tryz.underlying37]
  obtain ⟨p0, g0⟩ := Array.getElem?_eq_some_iff.1 h0
  obtain ⟨p1, g1⟩ := Array.getElem?_eq_some_iff.1 h1
  go_simp
theorem rec_guard (op : BinOp) (x y : Operand) (cs ds : Array Value) (w : World) : (eqGuard op 37 x y (.agg cs) (.agg ds)).run Tryz.prog w = .ok () w := run_eqGuard_agg w op 37 x y _ _ (by kernel_rfl)
theorem yieldsIf_rec {ops : Array Oper} {S : World → Prop} {o : Oper} {a : Act} (i : Rec) (hw : Region.wanted o (yielded ops a.tmps) = true) (x y : Operand) (ty : TypeId) (ho : o.op = .binOp .neq 37 x y ty) (hx : a.eval x = .agg (recV i).toArray) (hy : a.eval y = .agg (recV i).toArray) : YieldsIf Tryz.prog ops S o (.bool false) a :=
  .inl ⟨hw, fun w _ => by simp only [execOp, ho, hx, hy, Sem.run_bind, rec_guard, rec_neq i, Result.andThen_ok, Sem.run_pure]⟩

set_option maxRecDepth 100000 in
set_option maxHeartbeats 2000000 in
theorem sameRecs_any (A1 A2 : Option Addr) (n c1 c2 : Nat) (xs : List Rec) (w : World) (h1 : RecsA w w.heap.size A1 n xs) (h2 : RecsA w w.heap.size A2 n xs) (hn : n ≤ 10000000000000) :
    Calls Tryz.prog 45 #[.slice A1 n c1, .slice A2 n c2] w fun e w' => e = .returned (.bool true) ∧ Below w.heap.size w w' := by
  have h1' := hid h1
  have h2' := hid h2
  have hlen := h1.1
  clear h1 h2
  go_enter Tryz.func45, Tryz.ntmps45
  go_wp2_with fail
  go_loopw [5] (fun i wr => ∃ k : Nat, k ≤ n ∧ i = .int .i64 (k : Int) ∧ Below w.heap.size w wr) (fun i _ => n - (intOf i).toNat)
  case atStart => exact ⟨0, Nat.zero_le _, rfl, Below.refl _ _⟩
  case round =>
    obtain ⟨k, hk, rfl, hBr⟩ := hrel
    obtain ⟨W1, rfl⟩ : ∃ V, V = wr := ⟨_, rfl⟩
    by_cases hlt : k < n
    · obtain ⟨p, a, hpA, hpB, ha, hca⟩ := (h1'.out.below hBr.drew).get (k := k) hlt
      obtain ⟨q, a', hqA, hqB, ha', hcb⟩ := (h2'.out.below hBr.drew).get (k := k) hlt
      rw [ha] at ha'
      obtain rfl := Option.some.inj ha'
      subst hpA
      subst hqA
      have hlt' : (k : Int) < (n : Int) := by omega
      have u2 := IntWalk.i64_in ((k : Int) + 1) (by omega)
      have hca := hid hca
      have hcb := hid hcb
      have hb1 := hid (hBr.drew)
      clear ha ha' hBr
      have k0 : (0 : Int) ≤ (k : Int) := by omega
      go_wp2_with fail
      have hb : Below W1.heap.size W1 W1.drew := (Below.refl _ _).drew
      clear hb 
      refine wp_region_held_drew (S := fun W => (∀ j v, (recV a)[j]? = some v → W.cell? ((p.add (k * 2)).add j) = some v) ∧ ∀ j v, (recV a)[j]? = some v → W.cell? ((q.add (k * 2)).add j) = some v) (by kernel_rfl) (by exact ⟨hca.out, hcb.out⟩) (fun hHeld => ?_)
      generalize W1.drew = W2 at *
      refine tkn 0 (.slice (some p) n c1) rfl (by kernel_rfl) (fun _ _ _ h => h) (yieldsIf_move _ rfl rfl rfl) hHeld ?_
      simp only [ly, Act.put]
      refine tkn 1 (.int .i64 (k : Int)) rfl (by kernel_rfl) (fun _ _ _ h => h) (yieldsIf_move _ rfl rfl rfl) hHeld ?_
      simp only [ly, Act.put]
      refine tkn 2 (.pointer (some (p.add (k * 2)))) rfl (by kernel_rfl) (fun _ _ _ h => h) (.inl ⟨by kernel_rfl, fun w _ => by go_simp⟩) hHeld ?_
      simp only [ly, Act.put]
      refine tkn 3 (.agg (recV a).toArray) rfl (by kernel_rfl) (fun _ _ _ h => h) (yieldsIf_load_any (by kernel_rfl) _ _ rfl _ rfl _ _ (fun V hS => hS.1) Tryz.underlying37 rfl (by exact recSizeL a)) hHeld ?_
      simp only [ly, Act.put]
      refine tkn 4 (.slice (some q) n c2) rfl (by kernel_rfl) (fun _ _ _ h => h) (yieldsIf_move _ rfl rfl rfl) hHeld ?_
      simp only [ly, Act.put]
      refine tkn 5 (.int .i64 (k : Int)) rfl (by kernel_rfl) (fun _ _ _ h => h) (yieldsIf_move _ rfl rfl rfl) hHeld ?_
      simp only [ly, Act.put]
      refine tkn 6 (.pointer (some (q.add (k * 2)))) rfl (by kernel_rfl) (fun _ _ _ h => h) (.inl ⟨by kernel_rfl, fun w _ => by go_simp⟩) hHeld ?_
      simp only [ly, Act.put]
      refine tkn 7 (.agg (recV a).toArray) rfl (by kernel_rfl) (fun _ _ _ h => h) (yieldsIf_load_any (by kernel_rfl) _ _ rfl _ rfl _ _ (fun V hS => hS.2) Tryz.underlying37 rfl (by exact recSizeL a)) hHeld ?_
      simp only [ly, Act.put]
      refine tkn 8 (.bool false) rfl (by kernel_rfl) (fun _ _ _ h => h) (yieldsIf_rec a (by kernel_rfl) _ _ _ rfl rfl rfl) hHeld ?_
      simp only [ly, Act.put]
      refine wpAnyH_done (by kernel_rfl) ?_ _
      go_wp2_with fail
      go_roundw
      case rel => exact ⟨k + 1, by omega, by go_num, hb1.out⟩
      case measure => simp [intOf]; omega
    · have hlt' : ¬ (k : Int) < (n : Int) := by omega
      have hBr' := hid hBr
      clear hBr
      go_wp2_with fail
      go_ret
      exact ⟨rfl, hBr'.out⟩


end Go.Proofs.YtmgaegaibglnhaaGreat
namespace Go.Proofs.YtmgaegaibglnhaaGreat
open Go.RowKit

theorem list_two8 {α : Type _} : ∀ {l : List α}, l.length = 2 → ∃ a b, l = [a, b]
  | [a, b], _ => ⟨a, b, rfl⟩

section
variable {H : Type} {enc : TypeId × Value → H} {w : World} {base : Nat} {spare : Nat → Bool} {held : Bool}
open Go.ChangeShapes Go.WideShapes Go.Deep

theorem open_rec {fuel : Nat} {cs : List Value} {x : DataW H × List MemPlace} (h : DataW.trod enc Tryz.prog w base spare held fuel 37 cs = some x) : ∃ r : Rec, cs = recV r := by
  have hC : Tryz.prog.cellsOf 37 = 2 := by kernel_rfl
  have hI : Tryz.prog.cellsOf 3 = 1 := by kernel_rfl
  have hS : Tryz.prog.cellsOf 9 = 1 := by kernel_rfl
  obtain ⟨ys, n, _, hx, hl, hlen, hf⟩ := DataW.trod_struct Tryz.underlying37 h
  rw [hC] at hl
  have hlen' : ys.length = 2 := hlen
  have g0 := hf 0 _ rfl
  change DataW.trod enc Tryz.prog w base spare held n 3 ((cs.drop 0).take (Tryz.prog.cellsOf 3)) = _ at g0
  rw [hI] at g0
  have g1 := hf 1 _ rfl
  change DataW.trod enc Tryz.prog w base spare held n 9 ((cs.drop 1).take (Tryz.prog.cellsOf 9)) = _ at g1
  rw [hS] at g1
  have yy : ∀ i (hi : i < 2), ys[i]? = some (ys[i]'(by omega)) := fun i hi => List.getElem?_eq_getElem (by omega)
  obtain ⟨a0, h0, _, _⟩ := DataW.trod_int Tryz.underlying3 (g0.trans (yy 0 (by omega)))
  obtain ⟨s, h1, _, _⟩ := DataW.trod_string Tryz.underlying9 (g1.trans (yy 1 (by omega)))
  refine ⟨⟨a0, s⟩, ?_⟩
  obtain ⟨c0, c1, rfl⟩ : ∃ c0 c1, cs = [c0, c1] := list_two8 hl
  simp at h0 h1
  rw [h0, h1]
  rfl
end

end Go.Proofs.YtmgaegaibglnhaaGreat
namespace Go.Proofs.YtmgaegaibglnhaaGreat
open Go.RowKit
open Go.Lib (strCells strCells_length strCells_oneCell)
attribute [local irreducible] Sha.compress Sha.blocks Sha.sha Sha.pad

theorem dk_below8 {w W W' : World} {r b : Nat} (hB : Below w.heap.size w W) (hT : Turns W W' r (some b)) (h1 : w.heap.size ≤ r) (h2 : w.heap.size ≤ b) : Below w.heap.size w W' :=
  hB.trans (hT.below h1 (fun k e => by cases e; exact h2) hB.size)
theorem js_below {w W W' : World} {j r b : Nat} (hB : Below w.heap.size w W) (hT : TurnS (JS j r b) W W') (h0 : w.heap.size ≤ j) (h1 : w.heap.size ≤ r) (h2 : w.heap.size ≤ b) : Below w.heap.size w W' :=
  hB.trans (hT.below (fun k h => by rcases h with e | e | e <;> omega) hB.size)
/-- Open, where it is known what stands. -/
theorem open_ok (d r b n : Nat) (D : Dk) (l : Stood) (st : JSt) (h : JOk D n l st) (w : World) (hD : DiskAt w d r b n D) :
    Calls Tryz.prog 44 #[.pointer (some ⟨d, 0, none⟩)] w fun e w' => ∃ (j : Nat) (A : Option Addr) (c : Nat), e = .returned (.tuple #[.pointer (some ⟨j, 0, none⟩), .slice A l.length c, .int .i64 0]) ∧ Holds w' j 101 (jCells d st.prev (st.seq : Int) (st.used : Int)) ∧ w'.ownsRow w.heap.size 37 2 (.slice A l.length c) l.length (recsV l) ∧ DiskAt w' d r b n (D.wiped st.used) ∧ JOk (D.wiped st.used) n l st ∧ Turns w w' r (some b) ∧ w.heap.size ≤ j :=
  (open_any d r b n D w hD).mono fun e w' ⟨j, A, c, l2, st2, h1, h2, h3, h4, h5, h6, h7, h8⟩ => by
    obtain ⟨rfl, rfl⟩ := h.one h1 h2
    exact ⟨j, A, c, h3, h4, h5, h6, JOk.wiped h.fine h1, h7, h8⟩
theorem keep_none (q : Nat) : keepB 0 q = false := by
  have h : bits .and .i64 0 1 = 0 := by decide
  unfold keepB bitAt
  simp [h]
/-- What was written behind a Sync, one sector, a crash that keeps nothing takes away. -/
theorem crash_one {D : Dk} {n u : Nat} {s : ByteArray} (hD : D.fine n) (h : D.old = []) (_ : u < n) : ((D.write u s).crash 0).xs = D.xs := by
  apply List.ext_getElem?
  intro i
  show ((List.range (D.write u s).xs.length).map ((D.write u s).crashAt 0))[i]? = _
  have hl : (D.write u s).xs.length = n := by show (D.xs.set u s).length = n; rw [List.length_set]; exact hD.len
  rw [hl]
  by_cases hi : i < n
  · rw [List.getElem?_map, List.getElem?_range hi, Option.map_some]
    have hg : D.xs[i]? = some (D.xs.getD i ⟨#[]⟩) := by rw [List.getD_eq_getElem?_getD, List.getElem?_eq_getElem (by rw [hD.len]; exact hi)]; rfl
    rw [hg]
    congr 1
    unfold Dk.crashAt
    have ho : (D.write u s).old = [(u, D.xs.getD u ⟨#[]⟩)] := by
      unfold Dk.write
      rw [h]
      rfl
    have hxs : (D.write u s).xs = D.xs.set u s := rfl
    rw [ho]
    by_cases e : u = i
    · subst e
      have hq : oldGet [(u, D.xs.getD u ⟨#[]⟩)] u = some (D.xs.getD u ⟨#[]⟩) := by unfold oldGet; simp
      rw [hq]
      simp only [keep_none]
      rfl
    · have hq : oldGet [(u, D.xs.getD u ⟨#[]⟩)] i = none := by unfold oldGet; simp [e]
      rw [hq]
      show (D.write u s).xs.getD i ⟨#[]⟩ = _
      rw [hxs, List.getD_eq_getElem?_getD, List.getElem?_set_ne e, List.getD_eq_getElem?_getD]
  · rw [List.getElem?_eq_none (by rw [List.length_map, List.length_range]; omega), List.getElem?_eq_none (by rw [hD.len]; omega)]
theorem JOk.like {D E : Dk} {n : Nat} {l : Stood} {st : JSt} (h : JOk D n l st) (hE : E.fine n) (e : E.xs = D.xs) : JOk E n l st := ⟨hE, by rw [e]; exact h.chain, by rw [e]; exact h.blank⟩
def abR : Rec := ⟨1, ⟨#[97, 98]⟩⟩
def cdR : Rec := ⟨2, ⟨#[99, 100]⟩⟩
theorem ab_w : wholes (41 + abR.data.size) = 1 := rfl
theorem cd_w : wholes (41 + cdR.data.size) = 1 := rfl
theorem recs_lit (w : World) (R : Rec) : RecsA (w.alloc (.cells (recV R).toArray 37)) (w.alloc (.cells (recV R).toArray 37)).heap.size (some ⟨w.heap.size, 0, none⟩) 1 [R] := by
  refine ⟨rfl, .inr ⟨_, rfl, by simp, fun i hi j v hv => ?_⟩⟩
  have hi : i < 1 := hi
  obtain rfl : i = 0 := by omega
  have hH := Holds.new w 37 (recV R).toArray
  rw [add_add, show (⟨w.heap.size, 0, none⟩ : Addr).add (0 * 2 + j) = ⟨w.heap.size, j, none⟩ from by unfold Addr.add; split <;> simp_all, hH.cell]
  exact hv

set_option maxRecDepth 100000 in
set_option maxHeartbeats 8000000 in
theorem awake8_any (w : World) : Calls Tryz.prog 12 #[] w fun e w' => e = .returned (.bool true) ∧ Below w.heap.size w w' := by
  have hN := hid (dkNew_yes 4 (by decide) (by decide) w)
  obtain ⟨d, hd⟩ : ∃ d, w.heap.size + 2 = d := ⟨_, rfl⟩
  obtain ⟨r, hr0⟩ : ∃ r, w.heap.size = r := ⟨_, rfl⟩
  obtain ⟨b, hb0⟩ : ∃ b, w.heap.size + 1 = b := ⟨_, rfl⟩
  have hr := hid (show w.heap.size ≤ r from by omega)
  have hb' := hid (show w.heap.size ≤ b from by omega)
  have hbb := hid (show d ≠ r ∧ d ≠ b ∧ r ≠ b from by omega)
  have hN' := hid (show Calls Tryz.prog 9 #[.int .i64 4] w fun e w' => e = .returned (.tuple #[.pointer (some ⟨d, 0, none⟩), .int .i64 0]) ∧ DiskAt w' d r b 4 (Dk.new 4) ∧ Below w.heap.size w w' from by
    have h := hN.out
    rw [hd, hb0] at h
    exact h.mono fun e w' h2 => ⟨h2.1, by rw [← hr0]; exact h2.2.1, h2.2.2⟩)
  clear hN hd hr0 hb0
  -- the plain states
  have k0 : JOk ((Dk.new 4).wiped JSt.start.used) 4 [] JSt.start := JOk.wiped (Dk.fine.new 4) (l := []) rfl
  have s1 : sealMay ((JSt.start.seq : Nat) : Int) abR = true := by decide
  have k1 := k0.append abR s1 (by decide)
  obtain ⟨st1, hst1⟩ : ∃ x, JSt.start.pass abR (recBytes JSt.start.prev JSt.start.seq abR.kind.toNat abR.data) = x := ⟨_, rfl⟩
  have u1 : st1.used = 1 := by
    rw [← hst1]
    show 0 + (recBytes JSt.start.prev JSt.start.seq abR.kind.toNat abR.data).size / 64 = 1
    rw [recBytes_size, ab_w]
  have q1 : st1.seq = 1 := by rw [← hst1]; rfl
  obtain ⟨x1, hx1⟩ : ∃ x, asRB JSt.start abR s1 = x := ⟨_, rfl⟩
  have hx1' := hid (show x1.1.1 = abR from by rw [← hx1]; rfl)
  obtain ⟨D1, hD1⟩ : ∃ x, writeS ((Dk.new 4).wiped JSt.start.used) JSt.start.used (recBytes JSt.start.prev JSt.start.seq abR.kind.toNat abR.data) (wholes (41 + abR.data.size)) = x := ⟨_, rfl⟩
  have a1 := hid (fun j W hJ hA hj => append_ok j d r b 4 ((Dk.new 4).wiped JSt.start.used) JSt.start rfl abR s1 (by decide) W hJ hA hj)
  rw [hst1, hD1] at a1
  rw [hst1, hD1, hx1, List.nil_append] at k1
  have k2 := k1.sync
  have s2 : sealMay ((st1.seq : Nat) : Int) cdR = true := by rw [q1]; decide
  have f2 : st1.used + wholes (41 + cdR.data.size) ≤ 4 := by rw [u1]; decide
  have k3 := k2.append cdR s2 f2
  have p1 := k1.facts.1
  have a2 := hid (fun j W hJ hA hj => append_ok j d r b 4 D1.sync st1 p1 cdR s2 f2 W hJ hA hj)
  obtain ⟨st2, hst2⟩ : ∃ x, st1.pass cdR (recBytes st1.prev st1.seq cdR.kind.toNat cdR.data) = x := ⟨_, rfl⟩
  have u2 : st2.used = 2 := by
    rw [← hst2]
    show st1.used + (recBytes st1.prev st1.seq cdR.kind.toNat cdR.data).size / 64 = 2
    rw [recBytes_size, cd_w, u1]
  have q2 : st2.seq = 2 := by rw [← hst2]; show st1.seq + 1 = 2; rw [q1]
  have p2 : st2.prev.length = 32 := by rw [← hst2]; exact k3.facts.1
  obtain ⟨D3, hD3⟩ : ∃ x, writeS D1.sync st1.used (recBytes st1.prev st1.seq cdR.kind.toNat cdR.data) (wholes (41 + cdR.data.size)) = x := ⟨_, rfl⟩
  have c3 : (D3.crash 0).xs = D1.sync.xs := by
    rw [← hD3, cd_w]
    exact crash_one k2.fine rfl (by rw [u1]; decide)
  have k4 : JOk (D3.crash 0) 4 [x1] st1 := k2.like (by rw [← hD3]; exact k3.fine.crash 0) c3
  rw [hst2, hD3] at a2
  have o1 := hid (fun W hA => open_ok d r b 4 (Dk.new 4) [] JSt.start (JOk.new 4) W hA)
  have o2 := hid (fun W hA => open_ok d r b 4 (D3.crash 0) [x1] st1 k4 W hA)
  have a3 := hid (fun j W hJ hA => append_bad j d r b 4 ((D3.crash 0).wiped st1.used) st2 p2 ⟨256, ⟨#[]⟩⟩ (by rw [q2]; decide) W hJ hA)
  have us := hid (fun j W hJ => show Calls Tryz.prog 22 #[.pointer (some ⟨j, 0, none⟩)] W fun e w' => e = .returned (.int .i64 2) ∧ w' = W from by
    have h := jUsed_any j d st2 p2 W hJ
    rw [u2] at h
    exact h)
  have sy := hid (fun j W hJ hA => jSync_any j d r b 4 D1 st1 W hJ hA)
  have cr := hid (fun W hA => dkCrash_any 0 d r b 4 D3 W hA)
  clear k0 k1 k2 k3 k4 hst1 hst2 hD1 hD3 c3 s1 s2 f2 p1 p2 u1 u2 q1 q2 hx1
  go_enter Tryz.func12, Tryz.ntmps12
  go_wp2_with fail
  refine hN'.out.mono ?_
  rintro e W1 ⟨rfl, hA, hb⟩
  have hA1 := hid hA
  have hB1 := hid hb
  clear hA hb hN'
  go_wp2_with fail
  refine (o1.out _ hA1.out).mono ?_
  rintro e W2 ⟨j, A0, c0, rfl, hj, hrow0, hA, hk0, hT, hjl⟩
  have hjj := hid (show j ≠ r ∧ j ≠ b ∧ j ≠ d from by have := hA1.out.lt; omega)
  have hjw := hid (show w.heap.size ≤ j from Nat.le_trans hB1.out.size hjl)
  have hJ2 := hid hj
  have hA2 := hid hA
  have hB2 := hid (dk_below8 hB1.out hT hr.out hb'.out)
  clear hA1 hB1 hj hrow0 hA hk0 hT hjl o1
  try (rename_i hKK; refine hKK _ _ ?_; clear hKK)
  go_wp2_with (first
    | (go_at_call 11; refine (errNum_any _ _).mono ?_; rintro e w' ⟨rfl, rfl⟩)
    | fail)
  refine (a1.out j _ hJ2.out hA2.out hjj.out).mono ?_
  rintro e W3 ⟨rfl, hj, hA, hT⟩
  have hJ3 := hid (show Holds W3 j 101 (jCells d _ _ _) from hj)
  have hA3 := hid hA
  have hB3 := hid (js_below hB2.out hT hjw.out hr.out hb'.out)
  clear hj hA hT hA2 hB2 hJ2 a1
  try (rename_i hKK; refine hKK _ _ ?_; clear hKK)
  go_wp2_with fail
  refine (sy.out j _ hJ3.out hA3.out).mono ?_
  rintro e W4 ⟨rfl, hA, hT⟩
  have hA4 := hid hA
  have hJ4 := hid (hT.holds hJ3.out hjj.out.1 (fun e => hjj.out.2.1 (Option.some.inj e)))
  have hB4 := hid (dk_below8 hB3.out hT hr.out hb'.out)
  clear hA hT hA3 hB3 hJ3
  try (rename_i hKK; refine hKK _ _ ?_; clear hKK)
  go_wp2_with fail
  refine (a2.out j _ hJ4.out hA4.out hjj.out).mono ?_
  rintro e W5 ⟨rfl, hj, hA, hT⟩
  have hJ5 := hid (show Holds W5 j 101 (jCells d _ _ _) from hj)
  have hA5 := hid hA
  have hB5 := hid (js_below hB4.out hT hjw.out hr.out hb'.out)
  clear hj hA hT hA4 hB4 hJ4 a2
  try (rename_i hKK; refine hKK _ _ ?_; clear hKK)
  go_wp2_with fail
  refine (cr.out _ hA5.out).mono ?_
  rintro e W6 ⟨rfl, hA, hT⟩
  have hA6 := hid hA
  have hJ6 := hid (hT.holds hJ5.out hjj.out.1 (fun e => hjj.out.2.1 (Option.some.inj e)))
  have hB6 := hid (dk_below8 hB5.out hT hr.out hb'.out)
  clear hA hT hA5 hB5 hJ5
  try (rename_i hKK; refine hKK _ _ ?_; clear hKK)
  go_wp2_with fail
  refine (o2.out _ hA6.out).mono ?_
  rintro e W7 ⟨j2, A5, c5, rfl, hj2, hrow5, hA, hk5, hT, hjl⟩
  have hR7 := hid (show RecsA W7 W7.heap.size A5 1 [abR] from by
    have h := RecsA.of_row hrow5
    rw [← hx1'.out]
    exact h)
  have hA7 := hid hA
  have hJ7 := hid (hT.holds hJ6.out hjj.out.1 (fun e => hjj.out.2.1 (Option.some.inj e)))
  have hB7 := hid (dk_below8 hB6.out hT hr.out hb'.out)
  clear hA6 hB6 hJ6 hj2 hrow5 hA hk5 hT hjl o2
  have hl1 : List.length [x1] = 1 := rfl
  rw [hl1]
  clear hl1
  try (rename_i hKK; refine hKK _ _ ?_; clear hKK)
  go_wp2_with fail
  refine (open_nil _).mono ?_
  rintro e w' ⟨rfl, rfl⟩
  try (rename_i hKK; refine hKK _ _ ?_; clear hKK)
  go_wp2_with fail
  refine (a3.out j _ hJ7.out hA7.out).mono ?_
  rintro e W8 ⟨rfl, hb⟩
  have hA8 := hid (hA7.out.on hb)
  have hB8 := hid (bup hb hB7.out)
  have hJ8 := hid (hJ7.out.below hb hJ7.out.lt)
  have hR8 := hid (hR7.out.on hb)
  clear hb hA7 hB7 hJ7 hR7
  try (rename_i hKK; refine hKK _ _ ?_; clear hKK)
  go_wp2_with (first
    | (go_at_call 11; refine (errNum_any _ _).mono ?_; rintro e w' ⟨rfl, rfl⟩)
    | fail)
  refine (sameRecs_any A5 (some ⟨W8.heap.size, 0, none⟩) 1 c5 1 [abR] _ (hR8.out.on ((Below.refl _ _).alloc (Nat.le_refl _) _)) (recs_lit W8 abR) (by decide)).mono ?_
  rintro e W9 ⟨rfl, hb0⟩
  have hb : Below W8.heap.size W8 W9 := ((Below.refl _ _).alloc (Nat.le_refl _) _).trans (hb0.mono (by simp))
  clear hb0
  have hA9 := hid (hA8.out.on hb)
  have hB9 := hid (bup hb hB8.out)
  have hJ9 := hid (hJ8.out.below hb hJ8.out.lt)
  have hR9 := hid (hR8.out.on hb)
  clear hb hA8 hB8 hJ8 hR8
  try (rename_i hKK; refine hKK _ _ ?_; clear hKK)
  go_wp2_with (first
    | (go_at_call 11; refine (errNum_any _ _).mono ?_; rintro e w' ⟨rfl, rfl⟩)
    | (go_at_call 22; refine (us.out j _ hJ9.out).mono ?_; rintro e w' ⟨rfl, rfl⟩)
    | fail)
  go_ret
  exact ⟨rfl, hB9.out⟩


end Go.Proofs.YtmgaegaibglnhaaGreat
