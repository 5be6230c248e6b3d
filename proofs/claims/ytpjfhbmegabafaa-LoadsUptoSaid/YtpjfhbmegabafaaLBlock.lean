/- Plain words on memory: a slice's cells as a list; what a call leaves alone. No function of the program is named here.
   A region that draws its order, in a round of a loop over an iterator: as outside of it. No function of the program is named here.
   A block of memory that is known whole: what stores, new blocks and draws make of it. No function of the program is named here. -/
import Derived.WalkKit
import Derived.WalkSpells
import Derived.WalkLawsBesides
import Derived.Deep.Draws
import Derived.Deep.QuietTactic
import Derived.BigQuiet
import Derived.StillTailTactics
import Derived.Deep.RegionHeld3
import Derived.Deep.AppendLies
import Derived.Laws.Rows
import Derived.Maps.AppendAt
import Derived.OrdersIn
import Derived.OrdersHeld
import Derived.Deep.RegionHeld
import Derived.TacticsIn
import Derived.OwnWalkIn
import Derived.RangeFuncCalls
import Derived.Deep.MidRow
namespace Go.Proofs.Ytpjfhbmegabafaa
open Go.RowKit

/-! Short names for the rules that lay a list of operations, a frame out. -/
theorem ly1 {α : Type} (l : List α) (i : Nat) (h : i < l.toArray.size) : l.toArray[i] = l[i]'h := rfl
theorem ly2 {α : Type} (a : α) (l : List α) (i : Nat) (h : i + 1 < (a :: l).length) : (a :: l)[i + 1] = l[i]'(Nat.lt_of_succ_lt_succ h) := rfl
theorem ly3 {α : Type} (a : α) (l : List α) (h : 0 < (a :: l).length) : (a :: l)[0] = a := rfl
theorem ly5 {α : Type} (l : List α) (i : Nat) (a : α) : l.toArray.setIfInBounds i a = (l.set i a).toArray := List.setIfInBounds_toArray ..
theorem ly6 {α : Type} (x a : α) (l : List α) : (x :: l).set 0 a = a :: l := rfl
theorem ly7 {α : Type} (x a : α) (l : List α) (n : Nat) : (x :: l).set (n + 1) a = x :: l.set n a := rfl

/-- The slice that begins at A has n elements of sz cells each: these cells; they lie below block B. -/
def At (w : World) (B sz : Nat) (A : Option Addr) (n : Nat) (cs : List Value) : Prop :=
  cs.length = n * sz ∧ (n = 0 ∨ ∃ p : Addr, A = some p ∧ p.block < B ∧ ∀ j (h : j < cs.length), w.cell? (p.add j) = some cs[j])

theorem hid {p : Prop} (h : p) : Hid p := h

theorem add_block (p : Addr) (n : Nat) : (p.add n).block = p.block := by
  unfold Addr.add
  split <;> rfl

theorem add_add (p : Addr) (i j : Nat) : (p.add i).add j = p.add (i + j) := by
  unfold Addr.add
  by_cases hi : i = 0 <;> by_cases hj : j = 0 <;> simp [hi, hj, Nat.add_assoc]

section
variable {w w' : World} {B B' sz n : Nat} {A : Option Addr} {cs : List Value}

theorem At.zero : At w B sz A 0 [] := ⟨by simp, .inl rfl⟩

theorem At.len (h : At w B sz A n cs) : cs.length = n * sz := h.1

theorem At.get (h : At w B 1 A n cs) {k : Nat} (hk : k < n) : ∃ p v, A = some p ∧ p.block < B ∧ cs[k]? = some v ∧ w.cell? (p.add k) = some v := by
  obtain ⟨hl, h0 | ⟨p, hA, hB, hc⟩⟩ := h
  · omega
  · have hk' : k < cs.length := by omega
    exact ⟨p, cs[k], hA, hB, List.getElem?_eq_getElem hk', hc k hk'⟩

theorem At.keep (h : At w B sz A n cs) (hk : ∀ p : Addr, p.block < B → w'.cell? p = w.cell? p) : At w' B sz A n cs := by
  obtain ⟨hl, h0 | ⟨p, hA, hB, hc⟩⟩ := h
  · exact ⟨hl, .inl h0⟩
  · exact ⟨hl, .inr ⟨p, hA, hB, fun j hj => (hk _ (by rw [add_block]; exact hB)).trans (hc j hj)⟩⟩

theorem At.more (h : At w B sz A n cs) (hB : B ≤ B') : At w B' sz A n cs := by
  obtain ⟨hl, h0 | ⟨p, hA, hb, hc⟩⟩ := h
  · exact ⟨hl, .inl h0⟩
  · exact ⟨hl, .inr ⟨p, hA, Nat.lt_of_lt_of_le hb hB, hc⟩⟩

theorem At.below (h : At w B sz A n cs) (hb : Below B w w') : At w' B sz A n cs := h.keep fun _ hp => hb.cell hp

theorem At.drewN (h : At w B sz A n cs) (k : Nat) : At (w.drewN k) B sz A n cs := h

theorem At.alloc (h : At w B sz A n cs) (hB : B ≤ w.heap.size) (o : Obj) : At (w.alloc o) B sz A n cs :=
  h.below ((Below.refl _ _).alloc hB o)
end

theorem below_drewN {B : Nat} {a w : World} (h : Below B a w) (n : Nat) : Below B a (w.drewN n) := ⟨h.os, h.tape, h.output, h.size, h.block⟩

theorem below_grown {B sz n : Nat} {e : TypeId} {v : Value} {cs : List Value} {w0 w w1 w2 : World} (h : Below B w w1) (hg : w1.grownBy w2 v.ownBlock) (hB : B ≤ w1.heap.size) (hown : w0.ownsRow B e sz v n cs) : Below B w w2 :=
  h.grown hg hB fun g hgg => (hown.lt g hgg).1

section
variable {P : Program} {ops : Array Oper} {o : Oper} {a : Act} {w : World} {Q : Exit → Act → World → Prop}

end

section
variable {P : Program} {ops : Array Oper} {o : Oper} {a : Act} {w : World} {Q : Exit → Act → World → Prop}

theorem own_form {w : World} {B sz n : Nat} {e : TypeId} {v : Value} {cs : List Value} (h : w.ownsRow B e sz v n cs) : ∃ A c, v = .slice A n c := by
  rcases h.2 with ⟨rfl, rfl⟩ | ⟨g, cap, _, rfl, _⟩
  · exact ⟨_, _, rfl⟩
  · exact ⟨_, _, rfl⟩

theorem own_cap {w : World} {B sz n m c : Nat} {A : Option Addr} {e : TypeId} {cs : List Value} (h : w.ownsRow B e sz (.slice A m c) n cs) : n ≤ c := by
  rcases h.2 with ⟨hv, h0⟩ | ⟨g, cap, _, hv, _, _, hcap, _⟩
  · omega
  · injection hv with _ _ h2
    omega

/-- append of a slice that reads as these cells (nil, empty or not) onto a row of the call's own. -/
theorem wp_appends {K : Act → World → Prop} (s x : Operand) (t e : TypeId) (ho : o.op = .call { callee := .builtin .append, args := #[s, x], argTypes := #[t, t] })
    (B : Nat) (i : TypeInfo) (z : Value) (sz bytes : Nat) (ht : P.underlying t = some (.slice e)) (hi : P.info? e = some i) (hz : i.zero = some z) (hsize : i.size = sz) (hby : i.bytes = bytes) (hzs : z.cells.size = sz) (hsz : 0 < sz)
    (A : Option Addr) (n c : Nat) (cs : List Value) (B' : Nat) (A' : Option Addr) (m c' : Nat) (news : List Value) (hs : a.eval s = .slice A n c) (hx : a.eval x = .slice A' m c') (hnil : A' = none → c' = 0) (hu : ∀ u ∈ news, u.oneCell' = true)
    (h63 : n + m ≤ 1000000000000000) (hbytes : (n + m) * bytes ≤ 140737488355328) (hown : w.ownsRow B e sz (.slice A n c) n cs) (hnews : At w B' sz A' m news) (hB : B ≤ w.heap.size)
    (h : ∀ A2 c2 w', w'.ownsRow B e sz (.slice A2 (n + m) c2) (n + m) (cs ++ news) → Below B w w' → w.grownBy w' (Value.slice A n c).ownBlock → K (a.put o.dst (.slice A2 (n + m) c2)) w') : o.wp P a w K Q := by
  have hmax : n + m ≤ maxLen := by unfold maxLen; omega
  have key : ∃ v' w', (Builtin.append_ #[t, t] o.type #[.slice A n c, .slice A' m c']).run P w = .ok v' w' ∧ w'.ownsRow B e sz v' (n + m) (cs ++ news) ∧ w.grownBy w' (Value.slice A n c).ownBlock := by
    cases A' with
    | none =>
      obtain rfl := hnil rfl
      obtain ⟨hl, h0 | ⟨p, hp, _⟩⟩ := hnews
      · subst h0
        have hn0 : news = [] := List.eq_nil_of_length_eq_zero (by simpa using hl)
        subst hn0
        exact ⟨_, w, run_append_owned_none w B t o.type e i sz ht hi _ n cs hown, by simpa using hown, World.grownBy.refl w _⟩
      · cases hp
    | some p =>
      have hc : ∀ j u, news[j]? = some u → w.cell? (p.add j) = some u := by
        intro j u hu'
        obtain ⟨hl, h0 | ⟨p', hp', _, hcell⟩⟩ := hnews
        · subst h0
          have hn0 : news = [] := List.eq_nil_of_length_eq_zero (by simpa using hl)
          subst hn0
          simp at hu'
        · obtain rfl : p = p' := by injection hp'
          obtain ⟨hj, hju⟩ := List.getElem?_eq_some_iff.1 hu'
          rw [hcell j hj, hju]
      obtain ⟨v', w', h1, h2, h3, _⟩ := run_append_own_at (P := P) w B t o.type e i z sz bytes ht hi hz hsize hby hzs hsz _ n cs hown p m c' news hnews.1 hc hu hmax hbytes hB
      exact ⟨v', w', h1, h2, h3⟩
  obtain ⟨v', w', hrun, h2, h3⟩ := key
  obtain ⟨A2, c2, rfl⟩ := own_form h2
  unfold Oper.wp execOp
  simp only [ho, resolve, invoke, builtin, Sem.run_bind, Sem.run_pure, Result.andThen_ok, List.map_toArray, List.map_cons, List.map_nil, hs, hx, hrun]
  exact h _ _ w' h2 (below_grown (Below.refl _ _) h3 hB hown) h3

theorem wpList_appends {rest : List Oper} (hgd : o.guard = none) (s x : Operand) (t e : TypeId) (ho : o.op = .call { callee := .builtin .append, args := #[s, x], argTypes := #[t, t] })
    (B : Nat) (i : TypeInfo) (z : Value) (sz bytes : Nat) (ht : P.underlying t = some (.slice e)) (hi : P.info? e = some i) (hz : i.zero = some z) (hsize : i.size = sz) (hby : i.bytes = bytes) (hzs : z.cells.size = sz) (hsz : 0 < sz)
    (A : Option Addr) (n c : Nat) (cs : List Value) (B' : Nat) (A' : Option Addr) (m c' : Nat) (news : List Value) (hs : a.eval s = .slice A n c) (hx : a.eval x = .slice A' m c') (hnil : A' = none → c' = 0) (hu : ∀ u ∈ news, u.oneCell' = true)
    (h63 : n + m ≤ 1000000000000000) (hbytes : (n + m) * bytes ≤ 140737488355328) (hown : w.ownsRow B e sz (.slice A n c) n cs) (hnews : At w B' sz A' m news) (hB : B ≤ w.heap.size)
    (h : ∀ A2 c2 w', w'.ownsRow B e sz (.slice A2 (n + m) c2) (n + m) (cs ++ news) → Below B w w' → w.grownBy w' (Value.slice A n c).ownBlock → wpList P ops Q rest (a.put o.dst (.slice A2 (n + m) c2)) w') : wpList P ops Q (o :: rest) a w :=
  wpList_plain hgd fun _ hK => wp_appends s x t e ho B i z sz bytes ht hi hz hsize hby hzs hsz A n c cs B' A' m c' news hs hx hnil hu h63 hbytes hown hnews hB fun A2 c2 w' h1 h2 h3 => hK _ _ (h A2 c2 w' h1 h2 h3)

end

/-- The cells of a list of numbers. -/
def i64s (xs : List Int) : List Value := xs.map (Value.int .i64)

theorem At.of_own {w : World} {base sz n : Nat} {e : TypeId} {A : Option Addr} {c : Nat} {cs : List Value} (h : w.ownsRow base e sz (.slice A n c) n cs) : At w w.heap.size sz A n cs := by
  have hlt := h.lt
  have hcl := fun g => h.cells (g := g)
  obtain ⟨hl, h1⟩ := h
  refine ⟨hl, ?_⟩
  rcases h1 with ⟨_, h0⟩ | ⟨g, cap, cur, hv, hb, hh, hn, hm, hs, ht⟩
  · exact .inl h0
  · obtain ⟨rfl, rfl⟩ : A = some ⟨g, 0, none⟩ ∧ c = cap := by
      injection hv with h1 _ h2
      exact ⟨h1, h2⟩
    exact .inr ⟨_, rfl, (hlt g rfl).2, fun j hj => hcl g rfl j _ (List.getElem?_eq_getElem hj)⟩

theorem Ints.of_own {w : World} {base n : Nat} {e : TypeId} {A : Option Addr} {c : Nat} {xs : List Int} (h : w.ownsRow base e 1 (.slice A n c) n (xs.map (Value.int .i64))) :
    At w w.heap.size 1 A n (xs.map (Value.int .i64)) := At.of_own h

theorem i64s_length (xs : List Int) : (i64s xs).length = xs.length := by simp [i64s]

/-- The slice at A reads as these numbers. -/
def Ints (w : World) (B : Nat) (A : Option Addr) (n : Nat) (xs : List Int) : Prop := At w B 1 A n (i64s xs)

section
variable {w w' : World} {B B' n : Nat} {A : Option Addr} {xs : List Int}

theorem Ints.len (h : Ints w B A n xs) : xs.length = n := by
  have h' := At.len h
  rw [i64s_length] at h'
  omega

theorem Ints.get (h : Ints w B A n xs) {k : Nat} (hk : k < n) : ∃ p, A = some p ∧ p.block < B ∧ w.cell? (p.add k) = some (.int .i64 (xs.getD k 0)) := by
  obtain ⟨p, v, hA, hB, hv, hc⟩ := At.get h hk
  have hl := h.len
  refine ⟨p, hA, hB, ?_⟩
  rw [hc, ← hv]
  have : k < xs.length := by omega
  simp [i64s, List.getElem?_eq_getElem this]

theorem Ints.below (h : Ints w B A n xs) (hb : Below B w w') : Ints w' B A n xs := At.below h hb
theorem Ints.more (h : Ints w B A n xs) (hB : B ≤ B') : Ints w B' A n xs := At.more h hB
theorem Ints.drewN (h : Ints w B A n xs) (k : Nat) : Ints (w.drewN k) B A n xs := h
end

/-- A literal that was just made. -/
theorem Ints.new (w : World) (xs : List Int) (n : Nat) (e : TypeId) (cs : Array Value) (h : cs.toList = i64s xs) (hn : xs.length = n) :
    Ints (w.alloc (.cells cs e)) (w.heap.size + 1) (some ⟨w.heap.size, 0, none⟩) n xs := by
  subst hn
  refine ⟨by rw [i64s_length, Nat.mul_one], .inr ⟨_, rfl, Nat.lt_succ_self _, fun j hj => ?_⟩⟩
  have hs : cs[j]? = some (i64s xs)[j] := by
    rw [← Array.getElem?_toList, h]
    exact List.getElem?_eq_getElem hj
  have e0 : (⟨w.heap.size, 0, none⟩ : Addr).add j = ⟨w.heap.size, j, none⟩ := by
    unfold Addr.add
    by_cases h0 : j = 0 <;> simp [h0]
  rw [e0]
  rw [cell_of_row _ w.heap.size j cs e (0, 0) (heap_alloc_new w _), hs]

theorem Ints.alloc {w : World} {B n : Nat} {A : Option Addr} {xs : List Int} (h : Ints w B A n xs) (hB : B ≤ w.heap.size) (o : Obj) : Ints (w.alloc o) B A n xs := At.alloc h hB o

theorem heap_alloc (w : World) (o : Obj) (k : Nat) : (w.alloc o).heap[k]? = if k = w.heap.size then some o else w.heap[k]? := by
  show (w.heap.push o)[k]? = _
  rw [Array.getElem?_push]

theorem heap_at (w : World) (o : Obj) (k : Nat) (h : k = w.heap.size) : (w.alloc o).heap[k]? = some o := by rw [heap_alloc, if_pos h]
theorem heap_up (w : World) (o x : Obj) (k : Nat) (h : w.heap[k]? = some x) : (w.alloc o).heap[k]? = some x := by
  rw [heap_alloc, if_neg, h]
  rintro rfl
  rw [Array.getElem?_eq_none (Nat.le_refl _)] at h
  cases h

theorem row_head (a : Addr) (n : Nat) (h : 0 < n) : MemPlace.cell a.block a.off ∈ MemPlace.row a n := by
  unfold MemPlace.row
  rw [List.mem_map]
  exact ⟨0, by simpa using h, rfl⟩

end Go.Proofs.Ytpjfhbmegabafaa
namespace Go.Proofs.Ytpjfhbmegabafaa
open Go.RowKit

/-- No operation of these is a defer statement. -/
def noDefer (ops : Array Oper) : Bool := ops.all fun o => match o.op with | .defer _ => false | _ => true

theorem noDefer_spec {ops : Array Oper} (h : noDefer ops = true) {i : Nat} {o : Oper} (ho : ops[i]? = some o) : ∀ c, o.op ≠ .defer c := fun c e => by
  unfold noDefer at h
  rw [Array.all_eq_true] at h
  obtain ⟨hi, hoi⟩ := Array.getElem?_eq_some_iff.1 ho
  have := h i hi
  rw [hoi, e] at this
  cases this

section
variable {P : Program} {ops : Array Oper} {o : Oper} {a : Act} {w : World} {Q : Exit → Act → World → Prop} {K : Act → World → Prop} {n l : Nat}

theorem oper_round (hd : ∀ c, o.op ≠ .defer c) (h : o.wp P a w K Q) : o.wpIn (Fence.wide.inRound l) n P a w K Q := by
  unfold Oper.wpIn
  unfold Oper.wp at h
  refine ⟨fun _ _ => trivial, ?_⟩
  rw [show (Fence.wide.inRound l).round = some l from rfl, Oper.semAt_some _ _ _ hd]
  generalize (execOp a.eval o).run P w = r at h ⊢
  cases r with
  | ok x w' =>
    cases x with
    | enter f args => exact ⟨(fun e => by cases e), CallsIn.inRound l (callsIn_wide.2 h)⟩
    | row row args => exact ⟨(fun e => by cases e), fun c cs _ => let ⟨v, w2, r, s⟩ := h c cs; ⟨v, w2, r, stepsIn_wide.2 s⟩⟩
    | round l f tmps assign body => exact h.elim
    | _ => exact h
  | halt x w' => cases x <;> exact h

theorem ops_round (hnd : noDefer ops = true) (hL : ¬ LetsOut Q) : ∀ (is : List Nat) (a : Act) (w : World), wpOps P ops Q is a w → wpOpsIn (Fence.wide.inRound l) n P ops Q is a w
  | [], _, _, h => h
  | i :: is, a, w, h => by
    unfold wpOps at h
    unfold wpOpsIn
    cases ho : ops[i]? with
    | none =>
      rw [ho] at h
      exact ops_round hnd hL is a w h
    | some o =>
      rw [ho] at h
      dsimp only at h ⊢
      split
      · rename_i hw
        rw [if_pos hw] at h
        rcases h with h | ⟨_, h⟩
        · exact Oper.wpIn_mono (fun a w => ops_round hnd hL is a w) (oper_round (noDefer_spec hnd ho) h)
        · exact absurd h hL
      · rename_i hw
        rw [if_neg hw] at h
        exact ⟨fun _ _ => trivial, ops_round hnd hL is _ w h⟩

/-- A drawn region in a round. -/
theorem wpIn_region_round {id : Nat} {S : World → Prop} (hm : P.follows .mixedOrders = true) (hnd : noDefer ops = true) (hL : ¬ LetsOut Q) (hS : S w.drew)
    (h : S w.drew → wpAnyH P .any ops Q S ops.size (Array.replicate ops.size false) a w.drew) : (Code.region id ops true).wpIn (Fence.wide.inRound l) n P Q a w :=
  wpIn_region_draw fun t => by
    simp only [Region.schedule, hm, Bool.true_or, if_true]
    exact ops_round hnd hL _ _ _ (wpAny_sound ops.size t _ a _ (wpAny_of_held _ _ _ _ (h hS)))
end

end Go.Proofs.Ytpjfhbmegabafaa
namespace Go.Proofs.Ytpjfhbmegabafaa
open Go.RowKit

/-- Block g holds just these cells, of element type t; none is frozen. -/
def Holds (w : World) (g : Nat) (t : TypeId) (cs : List Value) : Prop := w.heap[g]? = some (.cells cs.toArray t (0, 0))

/-- vs in the place of what stood from o on. -/
def put (cs : List Value) (o : Nat) (vs : List Value) : List Value := cs.take o ++ vs ++ cs.drop (o + vs.length)

theorem put_cons (cs : List Value) (o : Nat) (v : Value) (vs : List Value) (h : o + (vs.length + 1) ≤ cs.length) : put (cs.set o v) (o + 1) vs = put cs o (v :: vs) := by
  unfold put
  have h1 : (cs.set o v).take (o + 1) = cs.take o ++ [v] := by
    rw [List.take_succ_eq_append_getElem (by simp; omega), List.take_set_of_le (Nat.le_refl _)]
    simp
  have h2 : (cs.set o v).drop (o + 1 + vs.length) = cs.drop (o + (vs.length + 1)) := by
    rw [List.drop_set_of_lt (by omega)]
    congr 1
    omega
  rw [h1, h2]
  simp

section
variable {w w' : World} {g : Nat} {t : TypeId} {cs : List Value}

theorem Holds.lt (h : Holds w g t cs) : g < w.heap.size := by
  rcases Nat.lt_or_ge g w.heap.size with h1 | h1
  · exact h1
  · unfold Holds at h
    rw [Array.getElem?_eq_none h1] at h
    cases h

theorem Holds.cell (h : Holds w g t cs) (i : Nat) : w.cell? ⟨g, i, none⟩ = cs[i]? := by
  rw [cell_of_row w g i cs.toArray t (0, 0) h]
  simp

theorem Holds.frozen (h : Holds w g t cs) (i : Nat) : w.frozen? ⟨g, i, none⟩ = false := frozen_of_row w g i cs.toArray t h

theorem Holds.new (w : World) (t : TypeId) (cs : Array Value) : Holds (w.alloc (.cells cs t)) w.heap.size t cs.toList := by
  unfold Holds
  rw [heap_at _ _ _ rfl]

theorem Holds.drewN (h : Holds w g t cs) (m : Nat) : Holds (w.drewN m) g t cs := h
theorem Holds.drew (h : Holds w g t cs) : Holds w.drew g t cs := h
theorem Holds.alloc (h : Holds w g t cs) (o : Obj) : Holds (w.alloc o) g t cs := heap_up _ _ _ _ h
theorem Holds.below {B : Nat} (h : Holds w g t cs) (hb : Below B w w') (hg : g < B) : Holds w' g t cs := (hb.block g hg).trans h
theorem Holds.grown {row : Option Nat} (h : Holds w g t cs) (hb : w.grownBy w' row) (hg : some g ≠ row) : Holds w' g t cs := (hb.block g h.lt hg).trans h

theorem Holds.set (h : Holds w g t cs) (i : Nat) (v : Value) : Holds (w.setCell ⟨g, i, none⟩ v) g t (cs.set i v) := by
  unfold Holds
  rw [heap_setCell_same w g i cs.toArray t v h]
  simp

theorem Holds.far (h : Holds w g t cs) (p : Addr) (hp : g ≠ p.block) (v : Value) : Holds (w.setCell p v) g t cs := (heap_setCell_other w p g v hp).trans h

theorem Holds.put (h : Holds w g t cs) (o : Nat) (vs : List Value) (hl : o + vs.length ≤ cs.length) : Holds (w.setCells g o vs) g t (put cs o vs) := by
  induction vs generalizing w cs o with
  | nil =>
    have e : Go.Proofs.Ytpjfhbmegabafaa.put cs o [] = cs := by simp [Go.Proofs.Ytpjfhbmegabafaa.put]
    rw [e]
    exact h
  | cons v vs ih =>
    have hl' : o + (vs.length + 1) ≤ cs.length := hl
    rw [← put_cons cs o v vs hl']
    exact ih (h.set o v) (o + 1) (by simp; omega)

theorem Holds.fars (h : Holds w g t cs) (b o : Nat) (vs : List Value) (hg : g ≠ b) : Holds (w.setCells b o vs) g t cs := by
  induction vs generalizing w o with
  | nil => exact h
  | cons v vs ih => exact ih (h.far _ hg v) (o + 1)

theorem Holds.range (h : Holds w g t cs) (o : Nat) (vs : List Value) (hv : ∀ j, j < vs.length → cs[o + j]? = vs[j]?) : w.rangeAt g o vs := by
  intro j v hj
  obtain ⟨hlt, _⟩ := List.getElem?_eq_some_iff.1 hj
  rw [h.cell, hv j hlt, hj]

theorem Holds.there (h : Holds w g t cs) (o n : Nat) (hn : o + n ≤ cs.length) : w.there g o n := by
  intro j hj
  refine ⟨?_, h.frozen _⟩
  rw [h.cell, List.getElem?_eq_getElem (by omega)]
  rfl
end

theorem put_all (cs vs : List Value) (h : vs.length = cs.length) : put cs 0 vs = vs := by
  unfold put
  rw [h]
  simp

/-- Stores into block g, which lies from B on. -/
theorem below_setCells {B : Nat} {a w : World} (h : Below B a w) (g o : Nat) (vs : List Value) (hg : B ≤ g) : Below B a (w.setCells g o vs) := by
  induction vs generalizing w o with
  | nil => exact h
  | cons v vs ih => exact ih (h.setCell hg v) (o + 1)

/-- Only block g, and what is new, has turned. -/
theorem only_setCell {a w : World} {g : Nat} (h : a.grownBy w (some g)) (i : Nat) (v : Value) : a.grownBy (w.setCell ⟨g, i, none⟩ v) (some g) :=
  ⟨h.os, h.tape, h.output, by simpa [World.setCell] using h.size, fun k hk hne => (heap_setCell_other w _ k v (fun e => hne (by rw [e]))).trans (h.block k hk hne)⟩

theorem only_drew {a w : World} {row : Option Nat} (h : a.grownBy w row) : a.grownBy w.drew row := ⟨h.os, h.tape, h.output, h.size, h.block⟩

theorem only_drewN {a w : World} {row : Option Nat} (h : a.grownBy w row) (m : Nat) : a.grownBy (w.drewN m) row := ⟨h.os, h.tape, h.output, h.size, h.block⟩

theorem only_setCells {a w : World} {g : Nat} (h : a.grownBy w (some g)) (o : Nat) (vs : List Value) : a.grownBy (w.setCells g o vs) (some g) := by
  induction vs generalizing w o with
  | nil => exact h
  | cons v vs ih => exact ih (only_setCell h o v) (o + 1)

theorem only_trans {a b c : World} {g : Nat} (h : a.grownBy b (some g)) (k : b.grownBy c (some g)) : a.grownBy c (some g) :=
  ⟨k.os.trans h.os, k.tape.trans h.tape, k.output.trans h.output, Nat.le_trans h.size k.size, fun i hi hne => (k.block i (Nat.lt_of_lt_of_le hi h.size) hne).trans (h.block i hi hne)⟩

theorem only_of_below {a w : World} (h : Below a.heap.size a w) (row : Option Nat) : a.grownBy w row := ⟨h.os, h.tape, h.output, h.size, fun i hi _ => h.block i hi⟩

theorem below_of_only {B g : Nat} {a b w : World} (h : Below B a b) (k : b.grownBy w (some g)) (hg : B ≤ g) (hB : B ≤ b.heap.size) : Below B a w :=
  h.grown k hB fun i e => by
    cases e
    exact hg

section
variable {P : Program} {ops : Array Oper} {o : Oper} {a : Act} {w : World} {Q : Exit → Act → World → Prop}
/-- An operation whose run is known. -/
theorem wpList_run {rest : List Oper} (hgd : o.guard = none) (v : Value) (w' : World) (hrun : (execOp a.eval o).run P w = .ok (.value v) w') (h : wpList P ops Q rest (a.put o.dst v) w') : wpList P ops Q (o :: rest) a w :=
  wpList_plain hgd fun K hK => by
    unfold Oper.wp
    rw [hrun, Oper.upon_value]
    exact hK _ _ h
end

section
variable {P : Program}
/-- 'arr[k:]' of an array variable of one-cell elements. -/
theorem run_sliceAt_from (t e : TypeId) (g o : Nat) (n k : Nat) (hk : k < n) (ht : P.underlying t = some (.array n e)) (hs : (P.info? e).map (·.size) = some 1) (w : World) :
    (Instr.sliceAt t (.pointer (some ⟨g, o, none⟩)) (some (.int .i64 (k : Int))) none none).run P w = .ok (.slice (some ⟨g, o + k, none⟩) (n - k) (n - k)) w := by
  obtain ⟨i, hi, hsz⟩ := Option.map_eq_some_iff.1 hs
  have h1 : ¬ n = k := by omega
  have h2 : k ≤ n := by omega
  have h3 : (⟨g, o, none⟩ : Addr).add k = ⟨g, o + k, none⟩ := Addr.add_mid g o k
  simp [Instr.sliceAt, run_underlying ht, Instr.sureAddr, Instr.sliceBounds, Instr.sliceBound, asIntOf, sizeOf, typeInfo, hi, hsz, h1, h2, h3]

theorem run_arrayAt (t e : TypeId) (a : Option Addr) (n len cap : Nat) (hn : n ≤ len) (ht : P.underlying t = some (.array n e)) (w : World) :
    (Instr.arrayAt t (.slice a len cap)).run P w = .ok (.pointer a) w := by
  have h : ¬ len < n := by omega
  simp [Instr.arrayAt, run_underlying ht, h]
end

end Go.Proofs.Ytpjfhbmegabafaa
