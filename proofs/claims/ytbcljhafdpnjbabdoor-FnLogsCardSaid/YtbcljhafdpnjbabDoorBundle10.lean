/-
  A piece's number, a piece's text written over. Nothing of the program's text is proved here.
  Contract: (*spec.l1Cur).log: some log of few, small pieces, in new memory.
  Contract of the specification's spoilt: some text, not much longer.
  Contracts: spec.DrawTearEnd, spec.DrawRecoverPiece: a drawn log and a number; a number and a text that is not long.
  Contracts: spec.DrawAppendLog, (*spec.l1Cur).logAt, spec.DrawReadAt, spec.DrawCutFrom: a drawn log, and a record or an offset.
  Small facts for the law over logs.
  'append' of texts behind a list that is the call's own. Nothing of the program's text is proved here but closed facts on its types.
  Plain mathematics of chapter 4: rising lists of ints, leaps, what is met, taken off and joined. Nothing of Go stands here.
-/
import Derived.Test.YtbcljhafdpnjbabDoorBundle3
import Derived.Test.YtbcljhafdpnjbabDoorBundle9
import Derived.Deep.RegionWith
import Derived.Deep.Cut
import Derived.Test.YtbcljhafdpnjbabDoorBundle8
import Derived.Test.YtbcljhafdpnjbabDoorBundle1
import Derived.Test.YtbcljhafdpnjbabDoorBundle7
import Derived.Maps.AppendAt
import Derived.Deep.Upon
import Derived.Deep.AppendLies
import Derived.KernelRfl
namespace Go.Proofs.YtbcljhafdpnjbabDoor.L6
open Go.RowKit L1
set_option linter.unusedVariables false

/-- From and Bytes of a piece written over. -/
theorem OwC.setF {w : World} {base g n cap : Nat} {M : List PV} (h : OwC w base (.slice (some ⟨g, 0, none⟩) n cap) n M) (k : Nat) (hk : k < n) (f : Int) :
    OwC (w.setCell ⟨g, k * 3, none⟩ (.int .i64 f)) base (.slice (some ⟨g, 0, none⟩) n cap) n (M.set k (⟨f, (M.getD k eV).1.s, (M.getD k eV).1.x⟩, (M.getD k eV).2)) ∧ w.grownBy (w.setCell ⟨g, k * 3, none⟩ (.int .i64 f)) (some g) := by
  have h1 := h.row.stored (k * 3) (.int .i64 f)
  have hl := h.len
  have hfl : (flatC M).length = n * 3 := by rw [flatC_len, hl]
  have keep : ∀ {c m : Nat} {u : Value} {ys : List Value}, w.ownsRow base 3 c u m ys → (w.setCell ⟨g, k * 3, none⟩ (.int .i64 f)).ownsRow base 3 c u m ys := fun hu =>
    own_keptC hu h1.2 (fun b hb e => by
      simp at e
      subst e
      exact own_two h.row hu int_piece g rfl hb)
  refine ⟨⟨by simpa using hl, ?_, fun i hi => ?_, fun i j hij hj => ?_⟩, h1.2⟩
  · obtain ⟨f1, f2, f3⟩ := flatC_get M k (by omega)
    rw [flatC_set]
    unfold L6.setC
    simp only
    have e2 : ((flatC M).set (k * 3) (.int .i64 f)).set (k * 3 + 1) (.string (M.getD k eV).1.s) = (flatC M).set (k * 3) (.int .i64 f) := by
      apply List.ext_getElem?
      intro j
      by_cases e : j = k * 3 + 1
      · subst e
        rw [List.getElem?_set_self (by simp; omega), List.getElem?_set_ne (by omega), f2]
      · rw [List.getElem?_set_ne (by omega)]
    have e3 : ((flatC M).set (k * 3) (.int .i64 f)).set (k * 3 + 2) (M.getD k eV).2 = (flatC M).set (k * 3) (.int .i64 f) := by
      apply List.ext_getElem?
      intro j
      by_cases e : j = k * 3 + 2
      · subst e
        rw [List.getElem?_set_self (by simp; omega), List.getElem?_set_ne (by omega), f3]
      · rw [List.getElem?_set_ne (by omega)]
    rw [e2, e3]
    exact h1.1
  · by_cases e : i = k
    · subst e
      rw [getD_set_self M i _ (by omega)]
      exact keep (h.idx i hi)
    · rw [getD_set_ne M k i _ e]
      exact keep (h.idx i hi)
  · intro b
    have q : ∀ t, t < n → ((M.set k (⟨f, (M.getD k eV).1.s, (M.getD k eV).1.x⟩, (M.getD k eV).2)).getD t eV).2 = (M.getD t eV).2 := fun t ht => by
      by_cases e : t = k
      · subst e; rw [getD_set_self M t _ (by omega)]
      · rw [getD_set_ne M k t _ e]
    rw [q i (by omega), q j hj]
    exact h.apart i j hij hj b
theorem OwC.setS {w : World} {base g n cap : Nat} {M : List PV} (h : OwC w base (.slice (some ⟨g, 0, none⟩) n cap) n M) (k : Nat) (hk : k < n) (s : ByteArray) :
    OwC (w.setCell ⟨g, k * 3 + 1, none⟩ (.string s)) base (.slice (some ⟨g, 0, none⟩) n cap) n (M.set k (⟨(M.getD k eV).1.f, s, (M.getD k eV).1.x⟩, (M.getD k eV).2)) ∧ w.grownBy (w.setCell ⟨g, k * 3 + 1, none⟩ (.string s)) (some g) := by
  have h1 := h.row.stored (k * 3 + 1) (.string s)
  have hl := h.len
  have hfl : (flatC M).length = n * 3 := by rw [flatC_len, hl]
  have keep : ∀ {c m : Nat} {u : Value} {ys : List Value}, w.ownsRow base 3 c u m ys → (w.setCell ⟨g, k * 3 + 1, none⟩ (.string s)).ownsRow base 3 c u m ys := fun hu =>
    own_keptC hu h1.2 (fun b hb e => by
      simp at e
      subst e
      exact own_two h.row hu int_piece g rfl hb)
  refine ⟨⟨by simpa using hl, ?_, fun i hi => ?_, fun i j hij hj => ?_⟩, h1.2⟩
  · obtain ⟨f1, f2, f3⟩ := flatC_get M k (by omega)
    rw [flatC_set]
    unfold L6.setC
    simp only
    have e1 : (flatC M).set (k * 3) (.int .i64 (M.getD k eV).1.f) = flatC M := by
      apply List.ext_getElem?
      intro j
      by_cases e : j = k * 3
      · subst e
        rw [List.getElem?_set_self (by omega), f1]
      · rw [List.getElem?_set_ne (by omega)]
    have e3 : ((flatC M).set (k * 3 + 1) (.string s)).set (k * 3 + 2) (M.getD k eV).2 = (flatC M).set (k * 3 + 1) (.string s) := by
      apply List.ext_getElem?
      intro j
      by_cases e : j = k * 3 + 2
      · subst e
        rw [List.getElem?_set_self (by simp; omega), List.getElem?_set_ne (by omega), f3]
      · rw [List.getElem?_set_ne (by omega)]
    rw [e1, e3]
    exact h1.1
  · by_cases e : i = k
    · subst e
      rw [getD_set_self M i _ (by omega)]
      exact keep (h.idx i hi)
    · rw [getD_set_ne M k i _ e]
      exact keep (h.idx i hi)
  · intro b
    have q : ∀ t, t < n → ((M.set k (⟨(M.getD k eV).1.f, s, (M.getD k eV).1.x⟩, (M.getD k eV).2)).getD t eV).2 = (M.getD t eV).2 := fun t ht => by
      by_cases e : t = k
      · subst e; rw [getD_set_self M t _ (by omega)]
      · rw [getD_set_ne M k t _ e]
    rw [q i (by omega), q j hj]
    exact h.apart i j hij hj b
end Go.Proofs.YtbcljhafdpnjbabDoor.L6

namespace Go.Proofs.YtbcljhafdpnjbabDoor.L6
open Go.RowKit L1
set_option linter.unusedVariables false

/-- A drawn log: as DrB, but for what is spoilt. -/
structure DrC (L : List Pc) (B : Int) : Prop where
  one : 1 ≤ L.length
  many : L.length ≤ 20
  ps : ∀ i, i < L.length → (gc L i).s.size ≤ 62 ∧ (gc L i).x.length ≤ 60 ∧ 0 ≤ (gc L i).f ∧ (gc L i).f ≤ 1301
  b0 : -2 ≤ B
  b1 : B ≤ 1410
theorem DrB.c {L : List Pc} {B : Int} (h : DrB L B) : DrC L B := ⟨h.one, h.many, fun i hi => by have := h.ps i hi; omega, by have := h.b0; omega, by have := h.b1; omega⟩
/-- What the cursor's log answers. -/
def DrL (w : World) (b N : Nat) (e : Ending) (w' : World) : Prop :=
  ∃ a n c B L M, e = .returned (.agg #[.slice a n c, .int .i64 B]) ∧ L6.pcs M = L ∧ L.length = n ∧ OwC w' w.heap.size (.slice a n c) n M ∧ DrC L B ∧ Cur w' b N ∧ w.grownBy w' (some b)
/-- The drawn log is loaded and handed back. -/
theorem LgF.out {w wr : World} {b G N n c : Nat} {a : Option Addr} {B : Int} {L : List Pc} {M : List PV} (h : LgF w b G N a n c B L M wr) (hd : DrC L B) : DrL w b N (.returned (.agg #[.slice a n c, .int .i64 B])) ((wr.setCell ⟨w.heap.size, 0, none⟩ (.slice a n c)).setCell ⟨w.heap.size, 1, none⟩ (.int .i64 B)) := by
  have h1 := h.hb
  have blk : ∀ q, q ≠ w.heap.size → ((wr.setCell ⟨w.heap.size, 0, none⟩ (.slice a n c)).setCell ⟨w.heap.size, 1, none⟩ (.int .i64 B)).heap[q]? = wr.heap[q]? := fun q hq => (Below.heap_setCell _ _ _ _ (show q ≠ w.heap.size from hq)).trans (Below.heap_setCell _ _ _ _ (show q ≠ w.heap.size from hq))
  have z : w.heap.size < w.heap.size + 1 := Nat.lt_succ_self _
  exact ⟨a, n, c, B, L, M, rfl, h.pcs, h.len, ((h.own.setC ⟨w.heap.size, 0, none⟩ _ z).setC ⟨w.heap.size, 1, none⟩ _ z).base (by omega), hd, h.cur.kept (fun k hk => blk k (by omega)), ⟨h.gr.os, h.gr.tape, h.gr.output, by simp; exact h.gr.size, fun q hq hn => (blk q (by omega)).trans (h.gr.block q hq hn)⟩⟩

theorem LgF.setB {w wr : World} {b G N n c : Nat} {a : Option Addr} {B : Int} {L : List Pc} {M : List PV} (h : LgF w b G N a n c B L M wr) (B' : Int) : LgF w b G N a n c B' L M (wr.setCell ⟨G, 1, none⟩ (.int .i64 B')) := by
  have h1 := h.hb
  have h2 := h.hG
  have b1 := heap_setCell_same wr G 1 _ _ (.int .i64 B') h.box
  have blk : ∀ q, q ≠ G → (wr.setCell ⟨G, 1, none⟩ (.int .i64 B')).heap[q]? = wr.heap[q]? := fun q hq => Below.heap_setCell _ _ _ _ (show q ≠ G from hq)
  exact ⟨h1, h2, h.cur.kept (fun k hk => blk k (by omega)), ⟨h.gr.os, h.gr.tape, h.gr.output, by simp; exact h.gr.size, fun q hq hn => (blk q (by omega)).trans (h.gr.block q hq hn)⟩, (blk _ (by omega)).trans h.res, b1.trans rfl, h.pcs, h.len, h.own.setBC h.box⟩
theorem LgF.rowG {w wr : World} {b G N n c : Nat} {a : Option Addr} {B : Int} {L : List Pc} {M : List PV} (h : LgF w b G N a n c B L M wr) (h1 : 1 ≤ n) : ∃ g, a = some ⟨g, 0, none⟩ ∧ g ≠ G ∧ w.heap.size < g ∧ n ≤ c := by
  obtain ⟨g, rfl, hc⟩ := own_capC h.own.row h1
  have hb := (own_ltC h.own.row g rfl).1
  refine ⟨g, rfl, fun e => ?_, by omega, hc⟩
  rcases h.own.row.2 with h0 | ⟨g', cp, cu, hv, hbg, hg, r⟩
  · simp at h0
  · cases hv
    rw [e, h.box] at hg
    simp at hg
theorem LgF.ofOwn {w wr wx : World} {b G N n c g : Nat} {B : Int} {L L' : List Pc} {M M' : List PV} (h : LgF w b G N (some ⟨g, 0, none⟩) n c B L M wr) (hgG : g ≠ G) (hgw : w.heap.size < g) (ho : OwC wx (w.heap.size + 1) (.slice (some ⟨g, 0, none⟩) n c) n M') (hg : wr.grownBy wx (some g)) (hp : L6.pcs M' = L') (hl : L'.length = n) : LgF w b G N (some ⟨g, 0, none⟩) n c B L' M' wx := by
  have h1 := h.hb
  have h2 := h.hG
  have h3 := h.lt
  have hcl := h.cur.lt
  refine ⟨h1, h2, h.cur.kept (fun k hk => hg.block k (by omega) (by simp; omega)), ⟨hg.os.trans h.gr.os, hg.tape.trans h.gr.tape, hg.output.trans h.gr.output, Nat.le_trans h.gr.size hg.size, fun q hq hn => (hg.block q (by have := h.gr.size; omega) (by simp; omega)).trans (h.gr.block q hq hn)⟩, (hg.block _ (by omega) (by simp; omega)).trans h.res, (hg.block _ h3 (by simp; omega)).trans h.box, hp, hl, ho⟩
theorem pcs_set (M : List PV) (k : Nat) (p : Pc) (v : Value) : L6.pcs (M.set k (p, v)) = (L6.pcs M).set k p := by
  show List.map _ _ = _
  rw [List.map_set]
theorem gc_set (L : List Pc) (k i : Nat) (p : Pc) (hi : i < L.length) : gc (L.set k p) i = if i = k then p else gc L i := by
  by_cases e : i = k
  · subst e
    rw [if_pos rfl]
    simp [gc, List.getD, hi]
  · rw [if_neg e]
    simp [gc, List.getD, List.getElem?_set_ne (Ne.symm e)]
theorem DrB.set {L : List Pc} {B : Int} (h : DrB L B) (k : Nat) (hk : k < L.length) (p : Pc) (hs : p.s.size ≤ (gc L k).s.size + 2) (hx : p.x = (gc L k).x) (h0 : (gc L k).f ≤ p.f) (h1 : p.f ≤ (gc L k).f + 1) : DrC (L.set k p) B := by
  refine ⟨by simpa using h.one, by simpa using h.many, fun i hi => ?_, by have := h.b0; omega, by have := h.b1; omega⟩
  have hi' : i < L.length := by simpa using hi
  rw [gc_set L k i p hi']
  have hkk := h.ps k hk
  have hii := h.ps i hi'
  split
  · rw [hx]
    omega
  · omega
theorem pick_lg3 {w wr : World} {b G N n c : Nat} {a : Option Addr} {B m : Int} {L : List Pc} {M : List PV} (h : LgF w b G N a n c B L M wr) (hN : N ≤ 1000000000) (h1 : 1 ≤ m) (h2 : m ≤ 1000000000000) :
    Calls Tryd.prog 53 #[.pointer (some ⟨b, 0, none⟩), .int .i64 m] wr fun e w' => ∃ y : Int, e = .returned (.int .i64 y) ∧ 0 ≤ y ∧ y < m ∧ Hid (LgF w b G (N + 2) a n c B L M w') := by
  refine (pick_any b N m wr h.cur hN (by omega) h2).mono ?_
  rintro e w' ⟨y, rfl, h0, _, hy, hc, hg⟩
  exact ⟨y, rfl, h0, hy h1, h.step hc hg⟩

theorem LgF.cells2 {w wr : World} {b G N n c : Nat} {a : Option Addr} {B : Int} {L : List Pc} {M : List PV} (h : LgF w b G N a n c B L M wr) : wr.cell? ⟨G, 0, none⟩ = some (.slice a n c) ∧ wr.cell? ⟨G, 1, none⟩ = some (.int .i64 B) := ⟨h.cells.1, h.cells.2.1⟩
theorem NewG.alloc {w w3 : World} {P : List Pc → Int → Prop} {a : Option Addr} {n c : Nat} {B : Int} {ok : Bool} (h : NewG w P a n c B ok w3) (o : Obj) : NewG w P a n c B ok (w3.alloc o) := fun e => by
  obtain ⟨L, M, h1, h2, h3, h4⟩ := h e
  exact ⟨L, M, h1, h2, h3.below ((Below.refl _ _).alloc (Nat.le_refl _) _), h4⟩
/-- A box beside is written into. -/
theorem leafG {w w3 : World} {b G N n c X : Nat} {a a3 : Option Addr} {n3 c3 : Nat} {B B3 : Int} {L : List Pc} {M : List PV} {P : List Pc → Int → Prop} {ok : Bool} {u0 u1 s0 s1 : Value} (h : LgF w b G N a n c B L M w3) (hn : NewG w P a3 n3 c3 B3 ok w3) (hX : w3.heap[X]? = some (.cells #[u0, u1] 25 (0, 0))) (hXG : X ≠ G) (hXw : w.heap.size < X) :
    ((w3.setCell ⟨X, 0, none⟩ s0).setCell ⟨X, 1, none⟩ s1).heap[X]? = some (.cells #[s0, s1] 25 (0, 0)) ∧ LgF w b G N a n c B L M ((w3.setCell ⟨X, 0, none⟩ s0).setCell ⟨X, 1, none⟩ s1) ∧ NewG w P a3 n3 c3 B3 ok ((w3.setCell ⟨X, 0, none⟩ s0).setCell ⟨X, 1, none⟩ s1) := by
  have h1 := h.hb
  have h2 := h.hG
  have b1 := heap_setCell_same w3 X 0 _ _ s0 hX
  have b2 := heap_setCell_same _ X 1 _ _ s1 b1
  have blk : ∀ q, q ≠ X → ((w3.setCell ⟨X, 0, none⟩ s0).setCell ⟨X, 1, none⟩ s1).heap[q]? = w3.heap[q]? := fun q hq => (Below.heap_setCell _ _ _ _ (show q ≠ X from hq)).trans (Below.heap_setCell _ _ _ _ (show q ≠ X from hq))
  refine ⟨b2.trans rfl, ⟨h1, h2, h.cur.kept (fun k hk => blk k (by omega)), ⟨h.gr.os, h.gr.tape, h.gr.output, by simp; exact h.gr.size, fun q hq hn => (blk q (by omega)).trans (h.gr.block q hq hn)⟩, (blk _ (by omega)).trans h.res, (blk _ (Ne.symm hXG)).trans h.box, h.pcs, h.len, (h.own.setBC hX).setBC b1⟩, fun e => ?_⟩
  obtain ⟨L, M, k1, k2, k3, k4⟩ := hn e
  exact ⟨L, M, k1, k2, (k3.setBC hX).setBC b1, k4⟩
theorem record_lg2 {w wr : World} {b G N n c : Nat} {a : Option Addr} {B : Int} {L : List Pc} {M : List PV} (h : LgF w b G N a n c B L M wr) (hN : N ≤ 1000000000) :
    Calls Tryd.prog 32 #[.pointer (some ⟨b, 0, none⟩)] wr fun e w' => ∃ r : ByteArray, e = .returned (.string r) ∧ Hid (r.size ≤ 21 ∧ LgF w b G (N + 2) a n c B L M w') ∧ Hid (∀ X, X < wr.heap.size → X ≠ b → w'.heap[X]? = wr.heap[X]?) ∧ Hid (wr.heap.size ≤ w'.heap.size) := by
  refine (record_any b N wr h.cur hN).mono ?_
  rintro e w' ⟨r, rfl, hr, hc, hg⟩
  exact ⟨r, rfl, ⟨hr, h.step hc hg⟩, fun X hX hne => hg.block X hX (by simpa using hne), hg.size⟩
theorem append_lg2 {w wr : World} {b G N n c : Nat} {a : Option Addr} {B : Int} {L : List Pc} {M : List PV} (h : LgF w b G N a n c B L M wr) (hd : DrB L B) (h0 : (gc L 0).f = 0) (r : ByteArray) (hr : r.size ≤ 21) :
    Calls Tryd.prog 7 #[.agg #[.slice a n c, .int .i64 B], .string r] wr fun e w' => ∃ a' n' c' B' ok, e = .returned (.tuple #[.agg #[.slice a' n' c', .int .i64 B'], .bool ok]) ∧ Hid (LgF w b G N a n c B L M w') ∧ Hid (NewG w (fun L B => DrB L B ∧ (gc L 0).f = 0) a' n' c' B' ok w') ∧ Hid (∀ X, X < wr.heap.size → w'.heap[X]? = wr.heap[X]?) := by
  obtain ⟨L', B', ok, ha⟩ := app_is L B r
  refine (specAppend_any a L n c B r wr h.len (by have := hd.many; have := h.len; omega) h.sl hd.sz (by omega) L' B' ok ha).mono ?_
  rintro e w' ⟨a', c', rfl, M', hM, ho, hb⟩
  refine ⟨a', _, c', B', ok, rfl, h.below hb, fun e => ?_, fun X hX => hb.block X hX⟩
  subst e
  obtain ⟨k1, k2, k3⟩ := dr_app hd h0 ha
  exact ⟨L', M', hM, rfl, ho.base (by have := h.lt; have := h.hG; omega), k1, k2⟩
theorem pick_lg2 {w wr : World} {b G N n c : Nat} {a : Option Addr} {B m : Int} {L : List Pc} {M : List PV} (h : LgF w b G N a n c B L M wr) (hN : N ≤ 1000000000) (h1 : -1000000000000 ≤ m) (h2 : m ≤ 1000000000000) :
    Calls Tryd.prog 53 #[.pointer (some ⟨b, 0, none⟩), .int .i64 m] wr fun e w' => ∃ y : Int, e = .returned (.int .i64 y) ∧ Hid (True ∧ LgF w b G (N + 2) a n c B L M w') ∧ Hid (∀ X, X < wr.heap.size → X ≠ b → w'.heap[X]? = wr.heap[X]?) ∧ Hid (wr.heap.size ≤ w'.heap.size) := by
  refine (pick_any b N m wr h.cur hN h1 h2).mono ?_
  rintro e w' ⟨y, rfl, _, _, _, hc, hg⟩
  exact ⟨y, rfl, ⟨trivial, h.step hc hg⟩, fun X hX hne => hg.block X hX (by simpa using hne), hg.size⟩
theorem drop_lg2 {w wr : World} {b G N n c : Nat} {a : Option Addr} {B : Int} {L : List Pc} {M : List PV} (h : LgF w b G N a n c B L M wr) (hd : DrB L B) (o : Int) :
    Calls Tryd.prog 20 #[.agg #[.slice a n c, .int .i64 B], .int .i64 o] wr fun e w' => ∃ a' n' c' B' ok, e = .returned (.tuple #[.agg #[.slice a' n' c', .int .i64 B'], .bool ok]) ∧ Hid (LgF w b G N a n c B L M w') ∧ Hid (NewG w DrB a' n' c' B' ok w') ∧ Hid (∀ X, X < wr.heap.size → w'.heap[X]? = wr.heap[X]?) := by
  obtain ⟨L', B', ok, ha⟩ := drop_is L B o
  refine (specDrop_any a L n c B o wr h.len (by have := hd.many; have := h.len; omega) h.sl hd.sz L' B' ok ha).mono ?_
  rintro e w' ⟨a', c', rfl, M', hM, ho, hb⟩
  refine ⟨a', _, c', B', ok, rfl, h.below hb, fun e => ?_, fun X hX => hb.block X hX⟩
  subst e
  exact ⟨L', M', hM, rfl, ho.base (by have := h.lt; have := h.hG; omega), dr_drop hd ha⟩

set_option maxRecDepth 100000 in
set_option maxHeartbeats 1500000 in
theorem log_any (b N : Nat) (w : World) (h : Cur w b N) (hN : N ≤ 1000000) :
    Calls Tryd.prog 31 #[.pointer (some ⟨b, 0, none⟩)] w (DrL w b (N + 200)) := by
  have hbw := h.lt
  have HC := hide h
  clear h
  go_enter Tryd.func31, Tryd.ntmps31
  go_wp2_with fail
  refine (specNewLog_any _).mono ?_
  rintro e w1 ⟨a1, c1, M1, rfl, hM1, ho1, hb1⟩
  have hz1 := hb1.size
  simp only [World.size_alloc] at hz1 ho1
  have F1 : Hid (LgF w b w1.heap.size N a1 1 c1 0 [eC] M1 (w1.alloc (.cells #[.slice a1 1 c1, .int .i64 0] 25 (0, 0)))) := by
    have hal := (Below.refl w1.heap.size w1).alloc (Nat.le_refl _) (.cells #[.slice a1 1 c1, .int .i64 0] 25 (0, 0))
    have hbw1 : Below w.heap.size w w1 := ((Below.refl w.heap.size w).alloc (Nat.le_refl _) (.cells #[.slice none 0 0, .int .i64 0] 25 (0, 0))).trans (hb1.mono (by simp))
    have hb2 := hbw1.trans (hal.mono (by omega))
    exact ⟨hbw, by omega, HC.out.below hb2, below_grown hb2, (hal.block _ (by omega)).trans ((hb1.block _ (by simp)).trans (blk_new _ _)), blk_new _ _, hM1, rfl, ho1.below hal⟩
  obtain ⟨G, hG⟩ : ∃ G, w1.heap.size = G := ⟨_, rfl⟩
  generalize hW : w1.alloc (.cells #[.slice a1 1 c1, .int .i64 0] 25 (0, 0)) = W at F1
  rw [hG] at F1
  have HW := hide hW
  have HGG := hide hG
  clear hb1 ho1 hM1 HC hW
  go_wp2_with (first | rw [HW.out] | fail)
  clear HW
  refine (pick_any b N 12 _ F1.out.cur (by omega) (by omega) (by omega)).mono ?_
  rintro e w2 ⟨x2, rfl, h20, _, h21, hc2, hg2⟩
  have h21' := h21 (by omega)
  have F2 := hide (F1.out.step hc2 hg2)
  clear hc2 hg2 h21 F1
  go_wp2_with fail
  refine (one_any b _ 20 _ F2.out.cur (by omega) (by omega) (by omega)).mono ?_
  rintro e w3 ⟨t3, rfl, hc3, hg3⟩
  have F3 := hide (F2.out.step hc3 hg3)
  clear hc3 hg3 F2
  go_upto_if 15 with fail
  go_cut [4] (fun nv wx => ∃ n : Nat, nv = .int .i64 n ∧ n ≤ 61 ∧ LgF w b G (N + 6) a1 1 c1 0 [eC] M1 wx)
  case first =>
    cases t3 with
    | true =>
      go_wp2_with fail
      refine (pick_any b _ 4 _ F3.out.cur (by omega) (by omega) (by omega)).mono ?_
      rintro e w4 ⟨x4, rfl, h40, _, h41, hc4, hg4⟩
      have h41' := h41 (by omega)
      obtain ⟨k4, rfl⟩ : ∃ k : Nat, x4 = (k : Int) := ⟨x4.toNat, by omega⟩
      have F4 := hide (F3.out.step hc4 hg4)
      clear hc4 hg4 h41
      go_wp2_with fail
      go_meet
      exact ⟨58 + k4, by simp, by omega, F4.out⟩
    | false =>
      obtain ⟨k2, rfl⟩ : ∃ k : Nat, x2 = (k : Int) := ⟨x2.toNat, by omega⟩
      go_wp2_with fail
      go_meet
      exact ⟨k2, rfl, by omega, F3.out.mono (by omega)⟩
  case rest =>
    obtain ⟨n0, rfl, hn0, hF⟩ := hcut
    have F4 := hide hF
    clear hF F3
    go_wp2
    go_loopw [4] (fun nv wr => ∃ (j : Nat) (a : Option Addr) (n c : Nat) (B : Int) (L : List Pc) (M : List PV), nv = .int .i64 j ∧ j ≤ 61 ∧ DrB L B ∧ (gc L 0).f = 0 ∧ LgF w b G (N + 6 + 2 * (61 - j)) a n c B L M wr) (fun nv _ => (intOf nv).toNat)
    case atStart => exact ⟨n0, a1, 1, c1, 0, [eC], M1, rfl, hn0, dr_new, rfl, F4.out.mono (by omega)⟩
    case round =>
      obtain ⟨j, a, n, c, B, L, M, rfl, hj, hd, h0, hF⟩ := hrel
      have F := hide hF
      have HD := hide hd
      have H0 := hide h0
      clear hF hd h0 F4
      cases j with
      | succ j =>
        have hjp : (0 : Int) < (j : Int) + 1 := by omega
        have CR := hide (fun wx (h : LgF w b G (N + 6 + 2 * (61 - (j + 1))) a n c B L M wx) => (record_lg2 h (by omega)))
        have CA := hide (fun wx r (h : Hid (r.size ≤ 21 ∧ LgF w b G (N + 6 + 2 * (61 - (j + 1)) + 2) a n c B L M wx)) => append_lg2 h.out.2 HD.out H0.out r h.out.1)
        obtain ⟨o0, o1, _, _⟩ := F.out.cells
        go_upto_region 7 with fail
        go_cut [5, 6] (fun p okv wx => ∃ (X : Nat) (a3 : Option Addr) (n3 c3 : Nat) (B3 : Int) (ok : Bool), p = .pointer (some ⟨X, 0, none⟩) ∧ okv = .bool ok ∧ wx.heap[X]? = some (.cells #[.slice a3 n3 c3, .int .i64 B3] 25 (0, 0)) ∧ LgF w b G (N + 6 + 2 * (61 - (j + 1)) + 2) a n c B L M wx ∧ NewG w (fun L B => DrB L B ∧ (gc L 0).f = 0) a3 n3 c3 B3 ok wx)
        case first =>
          refine wp_region_held_drew (S := (fun wx => wx.cell? ⟨G, 0, none⟩ = some (.slice a n c) ∧ wx.cell? ⟨G, 1, none⟩ = some (.int .i64 B))) (by kernel_rfl) F.out.cells2 (fun hHeld => ?_)
          refine wpAnyH_take (i := 0) (v := ?va1_) rfl (by kernel_rfl) (by kernel_rfl) (by kernel_rfl) (fun _ _ _ h => h) (Or.inl ⟨by rfl, ?ya1_⟩) (by assumption) ?ra1_
          case ya1_ => (intro w hSw; (try dsimp only at hSw); go_simp; try (with_reducible rfl))
          simp only [List.getElem_toArray, List.getElem_cons_zero, Act.put, List.setIfInBounds_toArray, List.set_cons_zero, List.set_cons_succ]
          refine wpAnyH_take (i := 1) (v := ?va2_) rfl (by kernel_rfl) (by kernel_rfl) (by kernel_rfl) (fun _ _ _ h => h) (Or.inl ⟨by rfl, ?ya2_⟩) (by assumption) ?ra2_
          case ya2_ => (intro w hSw; (try dsimp only at hSw); go_simp; try (with_reducible rfl))
          simp only [List.getElem_toArray, List.getElem_cons_succ, List.getElem_cons_zero, Act.put, List.setIfInBounds_toArray, List.set_cons_zero, List.set_cons_succ]
          refine wpAnyH_ready (rs := [2, 7]) (by kernel_rfl) (by simp) ?_
          refine AllReadyH.cons rfl (fun K hK => ?_) (AllReadyH.cons rfl (fun K hK => ?_) AllReadyH.nil)
          · skip
            simp only [List.getElem_toArray, List.getElem_cons_succ, List.getElem_cons_zero]
            go_simp
            go_at_call 32
            refine (CR.out _ F.out.drew).mono ?_
            rintro e w2 ⟨r, rfl, hr, k2, s2⟩
            dsimp only
            refine hK.out _ _ ?_ (fun hHeld => ?_)
            · exact hr.out.2.cells2
            clear hK K
            try simp only [Act.put, List.setIfInBounds_toArray, List.set_cons_zero, List.set_cons_succ]
            refine wpAnyH_ready (rs := [3, 7]) (by kernel_rfl) (by simp) ?_
            refine AllReadyH.cons rfl (fun K hK => ?_) (AllReadyH.cons rfl (fun K hK => ?_) AllReadyH.nil)
            · skip
              simp only [List.getElem_toArray, List.getElem_cons_succ, List.getElem_cons_zero]
              go_simp
              go_at_call 7
              refine (CA.out _ _ hr).mono ?_
              rintro e w3 ⟨a3, n3, c3, B3, ok, rfl, HF3, HN3, k3⟩
              dsimp only
              refine hK.out _ _ ?_ (fun hHeld => ?_)
              · exact HF3.out.cells2
              clear hK K
              try simp only [Act.put, List.setIfInBounds_toArray, List.set_cons_zero, List.set_cons_succ]
              refine wpAnyH_take (i := 4) (v := ?va3_) rfl (by kernel_rfl) (by kernel_rfl) (by kernel_rfl) (fun _ _ _ h => h) (Or.inl ⟨by rfl, ?ya3_⟩) (by assumption) ?ra3_
              case ya3_ => (intro w hSw; (try dsimp only at hSw); go_simp; try (with_reducible rfl))
              simp only [List.getElem_toArray, List.getElem_cons_succ, List.getElem_cons_zero, Act.put, List.setIfInBounds_toArray, List.set_cons_zero, List.set_cons_succ]
              refine wpAnyH_take (i := 5) (v := ?va4_) rfl (by kernel_rfl) (by kernel_rfl) (by kernel_rfl) (fun _ _ _ h => h) (Or.inl ⟨by rfl, ?ya4_⟩) (by assumption) ?ra4_
              case ya4_ => (intro w hSw; (try dsimp only at hSw); go_simp; try (with_reducible rfl))
              simp only [List.getElem_toArray, List.getElem_cons_succ, List.getElem_cons_zero, Act.put, List.setIfInBounds_toArray, List.set_cons_zero, List.set_cons_succ]
              refine wpAnyH_take (i := 6) (v := ?va5_) rfl (by kernel_rfl) (by kernel_rfl) (by kernel_rfl) (fun _ _ _ h => h) (Or.inl ⟨by rfl, ?ya5_⟩) (by assumption) ?ra5_
              case ya5_ => (intro w hSw; (try dsimp only at hSw); go_simp; try (with_reducible rfl))
              simp only [List.getElem_toArray, List.getElem_cons_succ, List.getElem_cons_zero, Act.put, List.setIfInBounds_toArray, List.set_cons_zero, List.set_cons_succ]
              refine wpAnyH_ready (rs := [7]) (by kernel_rfl) (by simp) ?_
              refine AllReadyH.cons rfl (fun K hK => ?_) AllReadyH.nil
              simp only [List.getElem_toArray, List.getElem_cons_succ, List.getElem_cons_zero]
              go_simp
              refine hK.out _ _ ?_ (fun hHeld => ?_)
              · exact (HF3.out.alloc _).cells2
              clear hK K
              try simp only [Act.put, List.setIfInBounds_toArray, List.set_cons_zero, List.set_cons_succ]
              have LF := And.intro (blk_new w3 (.cells #[.slice a3 n3 c3, .int .i64 B3] 25 (0, 0))) (And.intro (HF3.out.alloc (.cells #[.slice a3 n3 c3, .int .i64 B3] 25 (0, 0))) (HN3.out.alloc (.cells #[.slice a3 n3 c3, .int .i64 B3] 25 (0, 0))))
              obtain ⟨xx0, xx1, xx2, xx3⟩ := blkp (blk_new w3 (.cells #[.slice none 0 0, .int .i64 0] 25 (0, 0)))
              have HLF := hide LF
              clear LF
              refine wpAnyH_ready (rs := [8]) (by kernel_rfl) (by simp) ?_
              refine AllReadyH.cons rfl (fun K hK => ?_) AllReadyH.nil
              simp only [List.getElem_toArray, List.getElem_cons_succ, List.getElem_cons_zero]
              go_simp
              refine hK.out _ _ ?_ (fun hHeld => ?_)
              · exact HLF.out.2.1.cells2
              clear hK K
              try simp only [Act.put, List.setIfInBounds_toArray, List.set_cons_zero, List.set_cons_succ]
              refine wpAnyH_take (i := 9) (v := ?va6_) rfl (by kernel_rfl) (by kernel_rfl) (by kernel_rfl) (fun _ _ _ h => h) (Or.inl ⟨by rfl, ?ya6_⟩) (by assumption) ?ra6_
              case ya6_ => (intro w hSw; (try dsimp only at hSw); go_simp; try (with_reducible rfl))
              simp only [List.getElem_toArray, List.getElem_cons_succ, List.getElem_cons_zero, Act.put, List.setIfInBounds_toArray, List.set_cons_zero, List.set_cons_succ]
              refine wpAnyH_done (by kernel_rfl) ?_ _
              clear hHeld xx0 xx1 xx2 xx3
              go_wp2_with fail
              go_meet
              exact ⟨_, a3, n3, c3, B3, ok, rfl, rfl, HLF.out⟩
            · skip
              simp only [List.getElem_toArray, List.getElem_cons_succ, List.getElem_cons_zero]
              go_simp
              refine hK.out _ _ ?_ (fun hHeld => ?_)
              · exact (hr.out.2.alloc _).cells2
              clear hK K
              try simp only [Act.put, List.setIfInBounds_toArray, List.set_cons_zero, List.set_cons_succ]
              have hr' := hide (And.intro hr.out.1 (hr.out.2.alloc (.cells #[.slice none 0 0, .int .i64 0] 25 (0, 0))))
              refine wpAnyH_ready (rs := [3]) (by kernel_rfl) (by simp) ?_
              refine AllReadyH.cons rfl (fun K hK => ?_) AllReadyH.nil
              simp only [List.getElem_toArray, List.getElem_cons_succ, List.getElem_cons_zero]
              go_simp
              go_at_call 7
              refine (CA.out _ _ hr').mono ?_
              rintro e w3 ⟨a3, n3, c3, B3, ok, rfl, HF3, HN3, k3⟩
              dsimp only
              refine hK.out _ _ ?_ (fun hHeld => ?_)
              · exact HF3.out.cells2
              clear hK K
              try simp only [Act.put, List.setIfInBounds_toArray, List.set_cons_zero, List.set_cons_succ]
              have HX : w3.heap[w2.heap.size]? = some (.cells #[.slice none 0 0, .int .i64 0] 25 (0, 0)) := (k3.out _ (by simp)).trans (blk_new _ _)
              refine wpAnyH_take (i := 4) (v := ?va7_) rfl (by kernel_rfl) (by kernel_rfl) (by kernel_rfl) (fun _ _ _ h => h) (Or.inl ⟨by rfl, ?ya7_⟩) (by assumption) ?ra7_
              case ya7_ => (intro w hSw; (try dsimp only at hSw); go_simp; try (with_reducible rfl))
              simp only [List.getElem_toArray, List.getElem_cons_succ, List.getElem_cons_zero, Act.put, List.setIfInBounds_toArray, List.set_cons_zero, List.set_cons_succ]
              refine wpAnyH_take (i := 5) (v := ?va8_) rfl (by kernel_rfl) (by kernel_rfl) (by kernel_rfl) (fun _ _ _ h => h) (Or.inl ⟨by rfl, ?ya8_⟩) (by assumption) ?ra8_
              case ya8_ => (intro w hSw; (try dsimp only at hSw); go_simp; try (with_reducible rfl))
              simp only [List.getElem_toArray, List.getElem_cons_succ, List.getElem_cons_zero, Act.put, List.setIfInBounds_toArray, List.set_cons_zero, List.set_cons_succ]
              refine wpAnyH_take (i := 6) (v := ?va9_) rfl (by kernel_rfl) (by kernel_rfl) (by kernel_rfl) (fun _ _ _ h => h) (Or.inl ⟨by rfl, ?ya9_⟩) (by assumption) ?ra9_
              case ya9_ => (intro w hSw; (try dsimp only at hSw); go_simp; try (with_reducible rfl))
              simp only [List.getElem_toArray, List.getElem_cons_succ, List.getElem_cons_zero, Act.put, List.setIfInBounds_toArray, List.set_cons_zero, List.set_cons_succ]
              have LF := leafG (s0 := .slice a3 n3 c3) (s1 := .int .i64 B3) HF3.out HN3.out HX (by have := hr.out.2.lt; omega) (by have := hr.out.2.lt; have := F.out.hG; omega)
              obtain ⟨xx0, xx1, xx2, xx3⟩ := blkp HX
              have HLF := hide LF
              clear LF
              refine wpAnyH_ready (rs := [8]) (by kernel_rfl) (by simp) ?_
              refine AllReadyH.cons rfl (fun K hK => ?_) AllReadyH.nil
              simp only [List.getElem_toArray, List.getElem_cons_succ, List.getElem_cons_zero]
              go_simp
              refine hK.out _ _ ?_ (fun hHeld => ?_)
              · exact HLF.out.2.1.cells2
              clear hK K
              try simp only [Act.put, List.setIfInBounds_toArray, List.set_cons_zero, List.set_cons_succ]
              refine wpAnyH_take (i := 9) (v := ?va10_) rfl (by kernel_rfl) (by kernel_rfl) (by kernel_rfl) (fun _ _ _ h => h) (Or.inl ⟨by rfl, ?ya10_⟩) (by assumption) ?ra10_
              case ya10_ => (intro w hSw; (try dsimp only at hSw); go_simp; try (with_reducible rfl))
              simp only [List.getElem_toArray, List.getElem_cons_succ, List.getElem_cons_zero, Act.put, List.setIfInBounds_toArray, List.set_cons_zero, List.set_cons_succ]
              refine wpAnyH_done (by kernel_rfl) ?_ _
              clear hHeld xx0 xx1 xx2 xx3
              go_wp2_with fail
              go_meet
              exact ⟨_, a3, n3, c3, B3, ok, rfl, rfl, HLF.out⟩
          · skip
            simp only [List.getElem_toArray, List.getElem_cons_succ, List.getElem_cons_zero]
            go_simp
            refine hK.out _ _ ?_ (fun hHeld => ?_)
            · exact (F.out.drew.alloc _).cells2
            clear hK K
            try simp only [Act.put, List.setIfInBounds_toArray, List.set_cons_zero, List.set_cons_succ]
            refine wpAnyH_ready (rs := [2]) (by kernel_rfl) (by simp) ?_
            refine AllReadyH.cons rfl (fun K hK => ?_) AllReadyH.nil
            simp only [List.getElem_toArray, List.getElem_cons_succ, List.getElem_cons_zero]
            go_simp
            go_at_call 32
            refine (CR.out _ (F.out.drew.alloc _)).mono ?_
            rintro e w2 ⟨r, rfl, hr, k2, s2⟩
            dsimp only
            refine hK.out _ _ ?_ (fun hHeld => ?_)
            · exact hr.out.2.cells2
            clear hK K
            try simp only [Act.put, List.setIfInBounds_toArray, List.set_cons_zero, List.set_cons_succ]
            refine wpAnyH_ready (rs := [3]) (by kernel_rfl) (by simp) ?_
            refine AllReadyH.cons rfl (fun K hK => ?_) AllReadyH.nil
            simp only [List.getElem_toArray, List.getElem_cons_succ, List.getElem_cons_zero]
            go_simp
            go_at_call 7
            refine (CA.out _ _ hr).mono ?_
            rintro e w3 ⟨a3, n3, c3, B3, ok, rfl, HF3, HN3, k3⟩
            dsimp only
            refine hK.out _ _ ?_ (fun hHeld => ?_)
            · exact HF3.out.cells2
            clear hK K
            try simp only [Act.put, List.setIfInBounds_toArray, List.set_cons_zero, List.set_cons_succ]
            have HX : w3.heap[wr.heap.size]? = some (.cells #[.slice none 0 0, .int .i64 0] 25 (0, 0)) := (k3.out _ (Nat.lt_of_lt_of_le (by show wr.heap.size < (World.alloc _ _).heap.size; simp) (s2.out))).trans ((k2.out _ (by show wr.heap.size < (World.alloc _ _).heap.size; simp) (by have := F.out.lt; have := F.out.hG; have := F.out.hb; omega)).trans (by show (World.alloc _ _).heap[_]? = _; exact blk_new wr.drew _))
            refine wpAnyH_take (i := 4) (v := ?va11_) rfl (by kernel_rfl) (by kernel_rfl) (by kernel_rfl) (fun _ _ _ h => h) (Or.inl ⟨by rfl, ?ya11_⟩) (by assumption) ?ra11_
            case ya11_ => (intro w hSw; (try dsimp only at hSw); go_simp; try (with_reducible rfl))
            simp only [List.getElem_toArray, List.getElem_cons_succ, List.getElem_cons_zero, Act.put, List.setIfInBounds_toArray, List.set_cons_zero, List.set_cons_succ]
            refine wpAnyH_take (i := 5) (v := ?va12_) rfl (by kernel_rfl) (by kernel_rfl) (by kernel_rfl) (fun _ _ _ h => h) (Or.inl ⟨by rfl, ?ya12_⟩) (by assumption) ?ra12_
            case ya12_ => (intro w hSw; (try dsimp only at hSw); go_simp; try (with_reducible rfl))
            simp only [List.getElem_toArray, List.getElem_cons_succ, List.getElem_cons_zero, Act.put, List.setIfInBounds_toArray, List.set_cons_zero, List.set_cons_succ]
            refine wpAnyH_take (i := 6) (v := ?va13_) rfl (by kernel_rfl) (by kernel_rfl) (by kernel_rfl) (fun _ _ _ h => h) (Or.inl ⟨by rfl, ?ya13_⟩) (by assumption) ?ra13_
            case ya13_ => (intro w hSw; (try dsimp only at hSw); go_simp; try (with_reducible rfl))
            simp only [List.getElem_toArray, List.getElem_cons_succ, List.getElem_cons_zero, Act.put, List.setIfInBounds_toArray, List.set_cons_zero, List.set_cons_succ]
            have LF := leafG (s0 := .slice a3 n3 c3) (s1 := .int .i64 B3) HF3.out HN3.out HX (by have := F.out.lt; omega) (by have := F.out.lt; have := F.out.hG; omega)
            obtain ⟨xx0, xx1, xx2, xx3⟩ := blkp HX
            have HLF := hide LF
            clear LF
            refine wpAnyH_ready (rs := [8]) (by kernel_rfl) (by simp) ?_
            refine AllReadyH.cons rfl (fun K hK => ?_) AllReadyH.nil
            simp only [List.getElem_toArray, List.getElem_cons_succ, List.getElem_cons_zero]
            go_simp
            refine hK.out _ _ ?_ (fun hHeld => ?_)
            · exact HLF.out.2.1.cells2
            clear hK K
            try simp only [Act.put, List.setIfInBounds_toArray, List.set_cons_zero, List.set_cons_succ]
            refine wpAnyH_take (i := 9) (v := ?va14_) rfl (by kernel_rfl) (by kernel_rfl) (by kernel_rfl) (fun _ _ _ h => h) (Or.inl ⟨by rfl, ?ya14_⟩) (by assumption) ?ra14_
            case ya14_ => (intro w hSw; (try dsimp only at hSw); go_simp; try (with_reducible rfl))
            simp only [List.getElem_toArray, List.getElem_cons_succ, List.getElem_cons_zero, Act.put, List.setIfInBounds_toArray, List.set_cons_zero, List.set_cons_succ]
            refine wpAnyH_done (by kernel_rfl) ?_ _
            clear hHeld xx0 xx1 xx2 xx3
            go_wp2_with fail
            go_meet
            exact ⟨_, a3, n3, c3, B3, ok, rfl, rfl, HLF.out⟩
        case rest =>
          obtain ⟨X, a3, n3, c3, B3, ok, rfl, rfl, hX, hF3, hN3⟩ := hcut
          have G3 := hide hF3
          obtain ⟨g0, g1, g2, g3⟩ := G3.out.cells
          obtain ⟨x0, x1, _, _⟩ := blkp hX
          clear o0 o1 hF3 hX CR CA
          cases ok with
          | true =>
            obtain ⟨L3, M3, hp3, hl3, ho3, hd3⟩ := hN3 rfl
            have P3 := hide (G3.out.put (B' := B3) hp3 hl3 ho3)
            have HD3 := hide hd3
            clear hp3 hl3 ho3 hd3 hN3
            go_wp2
            go_roundw
            case rel => exact ⟨j, a3, n3, c3, B3, L3, M3, by simp, by omega, HD3.out.1, HD3.out.2, P3.out.mono (by omega)⟩
            case measure => simp [intOf]
          | false =>
            clear hN3
            go_wp2
            go_roundw
            case rel => exact ⟨j, a, n, c, B, L, M, by simp, by omega, HD.out, H0.out, G3.out.mono (by omega)⟩
            case measure => simp [intOf]
      | zero =>
        obtain ⟨o0, o1, _, _⟩ := F.out.cells
        go_wp2_with fail
        refine (end_lg F.out HD.out).mono ?_
        rintro e w4 ⟨x4, ok4, rfl, hx0, hx1, hF4⟩
        have F4 := hide (hF4.mono (show _ ≤ N + 130 by omega))
        clear hF4 F o0 o1
        go_upto_region 11 with fail
        go_cut [41] (fun t wx => ∃ tb : Bool, t = .bool tb ∧ LgF w b G (N + 132) a n c B L M wx)
        case first =>
          cases ok4 with
          | false =>
            go_wp2_with fail
            go_meet
            exact ⟨false, rfl, F4.out.mono (by omega)⟩
          | true =>
            go_wp2_with fail
            refine (one_any b _ 3 _ F4.out.cur (by omega) (by omega) (by omega)).mono ?_
            rintro e w5 ⟨t5, rfl, hc5, hg5⟩
            have F5 := hide (F4.out.step hc5 hg5)
            clear hc5 hg5
            go_wp2_with fail
            go_meet
            exact ⟨t5, rfl, F5.out⟩
        case rest =>
          obtain ⟨tb, rfl, hF5⟩ := hcut
          have F5 := hide hF5
          clear hF5 F4
          go_upto_if 41 with fail
          go_cut [0] (fun p wx => p = .pointer (some ⟨b, 0, none⟩) ∧ ∃ (a : Option Addr) (n c : Nat) (B : Int) (L : List Pc) (M : List PV), DrB L B ∧ LgF w b G (N + 134) a n c B L M wx)
          case first =>
            cases tb with
            | false =>
              go_wp2_with fail
              go_meet
              exact ⟨rfl, a, n, c, B, L, M, HD.out, F5.out.mono (by omega)⟩
            | true =>
              have CP := hide (fun wx (h : LgF w b G (N + 132) a n c B L M wx) => pick_lg2 (m := x4 + 1) h (by omega) (by omega) (by omega))
              have CD := hide (fun wx o (h : Hid (True ∧ LgF w b G (N + 134) a n c B L M wx)) => drop_lg2 h.out.2 HD.out o)
              have F := F5
              have hwx : IntKind.i64.wrap (x4 + 1) = x4 + 1 := wrap6 (by omega) (by omega)
              go_upto_region 12 with fail
              go_cut [9, 10] (fun p okv wx => ∃ (X : Nat) (a3 : Option Addr) (n3 c3 : Nat) (B3 : Int) (ok : Bool), p = .pointer (some ⟨X, 0, none⟩) ∧ okv = .bool ok ∧ wx.heap[X]? = some (.cells #[.slice a3 n3 c3, .int .i64 B3] 25 (0, 0)) ∧ LgF w b G (N + 134) a n c B L M wx ∧ NewG w DrB a3 n3 c3 B3 ok wx)
              case first =>
                refine wp_region_held_drew (S := (fun wx => wx.cell? ⟨G, 0, none⟩ = some (.slice a n c) ∧ wx.cell? ⟨G, 1, none⟩ = some (.int .i64 B))) (by kernel_rfl) F.out.cells2 (fun hHeld => ?_)
                refine wpAnyH_take (i := 0) (v := ?vb1_) rfl (by kernel_rfl) (by kernel_rfl) (by kernel_rfl) (fun _ _ _ h => h) (Or.inl ⟨by rfl, ?yb1_⟩) (by assumption) ?rb1_
                case yb1_ => (intro w hSw; (try dsimp only at hSw); go_simp; try (with_reducible rfl))
                simp only [List.getElem_toArray, List.getElem_cons_zero, Act.put, List.setIfInBounds_toArray, List.set_cons_zero, List.set_cons_succ]
                refine wpAnyH_take (i := 1) (v := ?vb2_) rfl (by kernel_rfl) (by kernel_rfl) (by kernel_rfl) (fun _ _ _ h => h) (Or.inl ⟨by rfl, ?yb2_⟩) (by assumption) ?rb2_
                case yb2_ => (intro w hSw; (try dsimp only at hSw); go_simp; try (with_reducible rfl))
                simp only [List.getElem_toArray, List.getElem_cons_succ, List.getElem_cons_zero, Act.put, List.setIfInBounds_toArray, List.set_cons_zero, List.set_cons_succ]
                refine wpAnyH_take (i := 2) (v := ?vb3_) rfl (by kernel_rfl) (by kernel_rfl) (by kernel_rfl) (fun _ _ _ h => h) (Or.inl ⟨by rfl, ?yb3_⟩) (by assumption) ?rb3_
                case yb3_ => (intro w hSw; (try dsimp only at hSw); go_simp; try (with_reducible rfl))
                simp only [List.getElem_toArray, List.getElem_cons_succ, List.getElem_cons_zero, Act.put, List.setIfInBounds_toArray, List.set_cons_zero, List.set_cons_succ]
                refine wpAnyH_take (i := 3) (v := ?vb4_) rfl (by kernel_rfl) (by kernel_rfl) (by kernel_rfl) (fun _ _ _ h => h) (Or.inl ⟨by rfl, ?yb4_⟩) (by assumption) ?rb4_
                case yb4_ => (intro w hSw; (try dsimp only at hSw); go_simp; try (with_reducible rfl))
                simp only [List.getElem_toArray, List.getElem_cons_succ, List.getElem_cons_zero, Act.put, List.setIfInBounds_toArray, List.set_cons_zero, List.set_cons_succ]
                refine wpAnyH_ready (rs := [4, 9]) (by kernel_rfl) (by simp) ?_
                refine AllReadyH.cons rfl (fun K hK => ?_) (AllReadyH.cons rfl (fun K hK => ?_) AllReadyH.nil)
                · skip
                  simp only [List.getElem_toArray, List.getElem_cons_succ, List.getElem_cons_zero]
                  go_simp
                  go_at_call 53
                  refine (CP.out _ F.out.drew).mono ?_
                  rintro e w2 ⟨r, rfl, hr, k2, s2⟩
                  dsimp only
                  refine hK.out _ _ ?_ (fun hHeld => ?_)
                  · exact hr.out.2.cells2
                  clear hK K
                  try simp only [Act.put, List.setIfInBounds_toArray, List.set_cons_zero, List.set_cons_succ]
                  refine wpAnyH_ready (rs := [5, 9]) (by kernel_rfl) (by simp) ?_
                  refine AllReadyH.cons rfl (fun K hK => ?_) (AllReadyH.cons rfl (fun K hK => ?_) AllReadyH.nil)
                  · skip
                    simp only [List.getElem_toArray, List.getElem_cons_succ, List.getElem_cons_zero]
                    go_simp
                    go_at_call 20
                    refine (CD.out _ _ hr).mono ?_
                    rintro e w3 ⟨a3, n3, c3, B3, ok, rfl, HF3, HN3, k3⟩
                    dsimp only
                    refine hK.out _ _ ?_ (fun hHeld => ?_)
                    · exact HF3.out.cells2
                    clear hK K
                    try simp only [Act.put, List.setIfInBounds_toArray, List.set_cons_zero, List.set_cons_succ]
                    refine wpAnyH_take (i := 6) (v := ?vb5_) rfl (by kernel_rfl) (by kernel_rfl) (by kernel_rfl) (fun _ _ _ h => h) (Or.inl ⟨by rfl, ?yb5_⟩) (by assumption) ?rb5_
                    case yb5_ => (intro w hSw; (try dsimp only at hSw); go_simp; try (with_reducible rfl))
                    simp only [List.getElem_toArray, List.getElem_cons_succ, List.getElem_cons_zero, Act.put, List.setIfInBounds_toArray, List.set_cons_zero, List.set_cons_succ]
                    refine wpAnyH_take (i := 7) (v := ?vb6_) rfl (by kernel_rfl) (by kernel_rfl) (by kernel_rfl) (fun _ _ _ h => h) (Or.inl ⟨by rfl, ?yb6_⟩) (by assumption) ?rb6_
                    case yb6_ => (intro w hSw; (try dsimp only at hSw); go_simp; try (with_reducible rfl))
                    simp only [List.getElem_toArray, List.getElem_cons_succ, List.getElem_cons_zero, Act.put, List.setIfInBounds_toArray, List.set_cons_zero, List.set_cons_succ]
                    refine wpAnyH_take (i := 8) (v := ?vb7_) rfl (by kernel_rfl) (by kernel_rfl) (by kernel_rfl) (fun _ _ _ h => h) (Or.inl ⟨by rfl, ?yb7_⟩) (by assumption) ?rb7_
                    case yb7_ => (intro w hSw; (try dsimp only at hSw); go_simp; try (with_reducible rfl))
                    simp only [List.getElem_toArray, List.getElem_cons_succ, List.getElem_cons_zero, Act.put, List.setIfInBounds_toArray, List.set_cons_zero, List.set_cons_succ]
                    refine wpAnyH_ready (rs := [9]) (by kernel_rfl) (by simp) ?_
                    refine AllReadyH.cons rfl (fun K hK => ?_) AllReadyH.nil
                    simp only [List.getElem_toArray, List.getElem_cons_succ, List.getElem_cons_zero]
                    go_simp
                    refine hK.out _ _ ?_ (fun hHeld => ?_)
                    · exact (HF3.out.alloc _).cells2
                    clear hK K
                    try simp only [Act.put, List.setIfInBounds_toArray, List.set_cons_zero, List.set_cons_succ]
                    have LF := And.intro (blk_new w3 (.cells #[.slice a3 n3 c3, .int .i64 B3] 25 (0, 0))) (And.intro (HF3.out.alloc (.cells #[.slice a3 n3 c3, .int .i64 B3] 25 (0, 0))) (HN3.out.alloc (.cells #[.slice a3 n3 c3, .int .i64 B3] 25 (0, 0))))
                    obtain ⟨xx0, xx1, xx2, xx3⟩ := blkp (blk_new w3 (.cells #[.slice none 0 0, .int .i64 0] 25 (0, 0)))
                    have HLF := hide LF
                    clear LF
                    refine wpAnyH_ready (rs := [10]) (by kernel_rfl) (by simp) ?_
                    refine AllReadyH.cons rfl (fun K hK => ?_) AllReadyH.nil
                    simp only [List.getElem_toArray, List.getElem_cons_succ, List.getElem_cons_zero]
                    go_simp
                    refine hK.out _ _ ?_ (fun hHeld => ?_)
                    · exact HLF.out.2.1.cells2
                    clear hK K
                    try simp only [Act.put, List.setIfInBounds_toArray, List.set_cons_zero, List.set_cons_succ]
                    refine wpAnyH_take (i := 11) (v := ?vb8_) rfl (by kernel_rfl) (by kernel_rfl) (by kernel_rfl) (fun _ _ _ h => h) (Or.inl ⟨by rfl, ?yb8_⟩) (by assumption) ?rb8_
                    case yb8_ => (intro w hSw; (try dsimp only at hSw); go_simp; try (with_reducible rfl))
                    simp only [List.getElem_toArray, List.getElem_cons_succ, List.getElem_cons_zero, Act.put, List.setIfInBounds_toArray, List.set_cons_zero, List.set_cons_succ]
                    refine wpAnyH_done (by kernel_rfl) ?_ _
                    clear hHeld xx0 xx1 xx2 xx3
                    go_wp2_with fail
                    go_meet
                    exact ⟨_, a3, n3, c3, B3, ok, rfl, rfl, HLF.out⟩
                  · skip
                    simp only [List.getElem_toArray, List.getElem_cons_succ, List.getElem_cons_zero]
                    go_simp
                    refine hK.out _ _ ?_ (fun hHeld => ?_)
                    · exact (hr.out.2.alloc _).cells2
                    clear hK K
                    try simp only [Act.put, List.setIfInBounds_toArray, List.set_cons_zero, List.set_cons_succ]
                    have hr' := hide (And.intro hr.out.1 (hr.out.2.alloc (.cells #[.slice none 0 0, .int .i64 0] 25 (0, 0))))
                    refine wpAnyH_ready (rs := [5]) (by kernel_rfl) (by simp) ?_
                    refine AllReadyH.cons rfl (fun K hK => ?_) AllReadyH.nil
                    simp only [List.getElem_toArray, List.getElem_cons_succ, List.getElem_cons_zero]
                    go_simp
                    go_at_call 20
                    refine (CD.out _ _ hr').mono ?_
                    rintro e w3 ⟨a3, n3, c3, B3, ok, rfl, HF3, HN3, k3⟩
                    dsimp only
                    refine hK.out _ _ ?_ (fun hHeld => ?_)
                    · exact HF3.out.cells2
                    clear hK K
                    try simp only [Act.put, List.setIfInBounds_toArray, List.set_cons_zero, List.set_cons_succ]
                    have HX : w3.heap[w2.heap.size]? = some (.cells #[.slice none 0 0, .int .i64 0] 25 (0, 0)) := (k3.out _ (by simp)).trans (blk_new _ _)
                    refine wpAnyH_take (i := 6) (v := ?vb9_) rfl (by kernel_rfl) (by kernel_rfl) (by kernel_rfl) (fun _ _ _ h => h) (Or.inl ⟨by rfl, ?yb9_⟩) (by assumption) ?rb9_
                    case yb9_ => (intro w hSw; (try dsimp only at hSw); go_simp; try (with_reducible rfl))
                    simp only [List.getElem_toArray, List.getElem_cons_succ, List.getElem_cons_zero, Act.put, List.setIfInBounds_toArray, List.set_cons_zero, List.set_cons_succ]
                    refine wpAnyH_take (i := 7) (v := ?vb10_) rfl (by kernel_rfl) (by kernel_rfl) (by kernel_rfl) (fun _ _ _ h => h) (Or.inl ⟨by rfl, ?yb10_⟩) (by assumption) ?rb10_
                    case yb10_ => (intro w hSw; (try dsimp only at hSw); go_simp; try (with_reducible rfl))
                    simp only [List.getElem_toArray, List.getElem_cons_succ, List.getElem_cons_zero, Act.put, List.setIfInBounds_toArray, List.set_cons_zero, List.set_cons_succ]
                    refine wpAnyH_take (i := 8) (v := ?vb11_) rfl (by kernel_rfl) (by kernel_rfl) (by kernel_rfl) (fun _ _ _ h => h) (Or.inl ⟨by rfl, ?yb11_⟩) (by assumption) ?rb11_
                    case yb11_ => (intro w hSw; (try dsimp only at hSw); go_simp; try (with_reducible rfl))
                    simp only [List.getElem_toArray, List.getElem_cons_succ, List.getElem_cons_zero, Act.put, List.setIfInBounds_toArray, List.set_cons_zero, List.set_cons_succ]
                    have LF := leafG (s0 := .slice a3 n3 c3) (s1 := .int .i64 B3) HF3.out HN3.out HX (by have := hr.out.2.lt; omega) (by have := hr.out.2.lt; have := F.out.hG; omega)
                    obtain ⟨xx0, xx1, xx2, xx3⟩ := blkp HX
                    have HLF := hide LF
                    clear LF
                    refine wpAnyH_ready (rs := [10]) (by kernel_rfl) (by simp) ?_
                    refine AllReadyH.cons rfl (fun K hK => ?_) AllReadyH.nil
                    simp only [List.getElem_toArray, List.getElem_cons_succ, List.getElem_cons_zero]
                    go_simp
                    refine hK.out _ _ ?_ (fun hHeld => ?_)
                    · exact HLF.out.2.1.cells2
                    clear hK K
                    try simp only [Act.put, List.setIfInBounds_toArray, List.set_cons_zero, List.set_cons_succ]
                    refine wpAnyH_take (i := 11) (v := ?vb12_) rfl (by kernel_rfl) (by kernel_rfl) (by kernel_rfl) (fun _ _ _ h => h) (Or.inl ⟨by rfl, ?yb12_⟩) (by assumption) ?rb12_
                    case yb12_ => (intro w hSw; (try dsimp only at hSw); go_simp; try (with_reducible rfl))
                    simp only [List.getElem_toArray, List.getElem_cons_succ, List.getElem_cons_zero, Act.put, List.setIfInBounds_toArray, List.set_cons_zero, List.set_cons_succ]
                    refine wpAnyH_done (by kernel_rfl) ?_ _
                    clear hHeld xx0 xx1 xx2 xx3
                    go_wp2_with fail
                    go_meet
                    exact ⟨_, a3, n3, c3, B3, ok, rfl, rfl, HLF.out⟩
                · skip
                  simp only [List.getElem_toArray, List.getElem_cons_succ, List.getElem_cons_zero]
                  go_simp
                  refine hK.out _ _ ?_ (fun hHeld => ?_)
                  · exact (F.out.drew.alloc _).cells2
                  clear hK K
                  try simp only [Act.put, List.setIfInBounds_toArray, List.set_cons_zero, List.set_cons_succ]
                  refine wpAnyH_ready (rs := [4]) (by kernel_rfl) (by simp) ?_
                  refine AllReadyH.cons rfl (fun K hK => ?_) AllReadyH.nil
                  simp only [List.getElem_toArray, List.getElem_cons_succ, List.getElem_cons_zero]
                  go_simp
                  go_at_call 53
                  refine (CP.out _ (F.out.drew.alloc _)).mono ?_
                  rintro e w2 ⟨r, rfl, hr, k2, s2⟩
                  dsimp only
                  refine hK.out _ _ ?_ (fun hHeld => ?_)
                  · exact hr.out.2.cells2
                  clear hK K
                  try simp only [Act.put, List.setIfInBounds_toArray, List.set_cons_zero, List.set_cons_succ]
                  refine wpAnyH_ready (rs := [5]) (by kernel_rfl) (by simp) ?_
                  refine AllReadyH.cons rfl (fun K hK => ?_) AllReadyH.nil
                  simp only [List.getElem_toArray, List.getElem_cons_succ, List.getElem_cons_zero]
                  go_simp
                  go_at_call 20
                  refine (CD.out _ _ hr).mono ?_
                  rintro e w3 ⟨a3, n3, c3, B3, ok, rfl, HF3, HN3, k3⟩
                  dsimp only
                  refine hK.out _ _ ?_ (fun hHeld => ?_)
                  · exact HF3.out.cells2
                  clear hK K
                  try simp only [Act.put, List.setIfInBounds_toArray, List.set_cons_zero, List.set_cons_succ]
                  have HX : w3.heap[wc.heap.size]? = some (.cells #[.slice none 0 0, .int .i64 0] 25 (0, 0)) := (k3.out _ (Nat.lt_of_lt_of_le (by show wc.heap.size < (World.alloc _ _).heap.size; simp) (s2.out))).trans ((k2.out _ (by show wc.heap.size < (World.alloc _ _).heap.size; simp) (by have := F.out.lt; have := F.out.hG; have := F.out.hb; omega)).trans (by show (World.alloc _ _).heap[_]? = _; exact blk_new wc.drew _))
                  refine wpAnyH_take (i := 6) (v := ?vb13_) rfl (by kernel_rfl) (by kernel_rfl) (by kernel_rfl) (fun _ _ _ h => h) (Or.inl ⟨by rfl, ?yb13_⟩) (by assumption) ?rb13_
                  case yb13_ => (intro w hSw; (try dsimp only at hSw); go_simp; try (with_reducible rfl))
                  simp only [List.getElem_toArray, List.getElem_cons_succ, List.getElem_cons_zero, Act.put, List.setIfInBounds_toArray, List.set_cons_zero, List.set_cons_succ]
                  refine wpAnyH_take (i := 7) (v := ?vb14_) rfl (by kernel_rfl) (by kernel_rfl) (by kernel_rfl) (fun _ _ _ h => h) (Or.inl ⟨by rfl, ?yb14_⟩) (by assumption) ?rb14_
                  case yb14_ => (intro w hSw; (try dsimp only at hSw); go_simp; try (with_reducible rfl))
                  simp only [List.getElem_toArray, List.getElem_cons_succ, List.getElem_cons_zero, Act.put, List.setIfInBounds_toArray, List.set_cons_zero, List.set_cons_succ]
                  refine wpAnyH_take (i := 8) (v := ?vb15_) rfl (by kernel_rfl) (by kernel_rfl) (by kernel_rfl) (fun _ _ _ h => h) (Or.inl ⟨by rfl, ?yb15_⟩) (by assumption) ?rb15_
                  case yb15_ => (intro w hSw; (try dsimp only at hSw); go_simp; try (with_reducible rfl))
                  simp only [List.getElem_toArray, List.getElem_cons_succ, List.getElem_cons_zero, Act.put, List.setIfInBounds_toArray, List.set_cons_zero, List.set_cons_succ]
                  have LF := leafG (s0 := .slice a3 n3 c3) (s1 := .int .i64 B3) HF3.out HN3.out HX (by have := F.out.lt; omega) (by have := F.out.lt; have := F.out.hG; omega)
                  obtain ⟨xx0, xx1, xx2, xx3⟩ := blkp HX
                  have HLF := hide LF
                  clear LF
                  refine wpAnyH_ready (rs := [10]) (by kernel_rfl) (by simp) ?_
                  refine AllReadyH.cons rfl (fun K hK => ?_) AllReadyH.nil
                  simp only [List.getElem_toArray, List.getElem_cons_succ, List.getElem_cons_zero]
                  go_simp
                  refine hK.out _ _ ?_ (fun hHeld => ?_)
                  · exact HLF.out.2.1.cells2
                  clear hK K
                  try simp only [Act.put, List.setIfInBounds_toArray, List.set_cons_zero, List.set_cons_succ]
                  refine wpAnyH_take (i := 11) (v := ?vb16_) rfl (by kernel_rfl) (by kernel_rfl) (by kernel_rfl) (fun _ _ _ h => h) (Or.inl ⟨by rfl, ?yb16_⟩) (by assumption) ?rb16_
                  case yb16_ => (intro w hSw; (try dsimp only at hSw); go_simp; try (with_reducible rfl))
                  simp only [List.getElem_toArray, List.getElem_cons_succ, List.getElem_cons_zero, Act.put, List.setIfInBounds_toArray, List.set_cons_zero, List.set_cons_succ]
                  refine wpAnyH_done (by kernel_rfl) ?_ _
                  clear hHeld xx0 xx1 xx2 xx3
                  go_wp2_with fail
                  go_meet
                  exact ⟨_, a3, n3, c3, B3, ok, rfl, rfl, HLF.out⟩
              case rest =>
                obtain ⟨X, a3, n3, c3, B3, ok, rfl, rfl, hX, hF3, hN3⟩ := hcut
                have G3 := hide hF3
                obtain ⟨g0, g1, g2, g3⟩ := G3.out.cells
                obtain ⟨x0, x1, _, _⟩ := blkp hX
                clear hF3 hX CP CD F
                cases ok with
                | true =>
                  obtain ⟨L3, M3, hp3, hl3, ho3, hd3⟩ := hN3 rfl
                  have P3 := hide (G3.out.put (B' := B3) hp3 hl3 ho3)
                  have HD3 := hide hd3
                  clear hp3 hl3 ho3 hd3 hN3
                  go_wp2_with fail
                  go_meet
                  exact ⟨rfl, a3, n3, c3, B3, L3, M3, HD3.out, P3.out⟩
                | false =>
                  clear hN3
                  go_wp2_with fail
                  go_meet
                  exact ⟨rfl, a, n, c, B, L, M, HD.out, G3.out⟩
          case rest =>
            obtain ⟨rfl, a, n, c, B, L, M, hd6, hF6⟩ := hcut
            have F6 := hide hF6
            have HD6 := hide hd6
            clear hF6 hd6 F5 HD H0
            go_wp2_with fail
            refine (pick_any b _ 30 _ F6.out.cur (by omega) (by omega) (by omega)).mono ?_
            rintro e w7 ⟨x7, rfl, h70, _, h71, hc7, hg7⟩
            have F := hide (F6.out.step hc7 hg7)
            have hB0 := HD6.out.b0
            have hB1 := HD6.out.b1
            clear hc7 hg7 h71 F6
            by_cases e0 : x7 = 0
            · subst e0
              have CP := hide (fun wx (h : LgF w b G (N + 136) a n c B L M wx) => (pick_lg3 (m := 9) h (by omega) (by omega) (by omega)).mono (R' := fun e w' => ∃ y : Int, e = .returned (.int .i64 y) ∧ 0 ≤ y ∧ y < 9 ∧ Hid (LgF w b G (N + 138) a n c B L M w') ∧ w'.cell? ⟨G, 1, none⟩ = some (.int .i64 B) ∧ w'.frozen? ⟨G, 1, none⟩ = false) (by
                rintro e w' ⟨y, rfl, h0, h1, hF⟩
                exact ⟨y, rfl, h0, h1, hF, hF.out.cells.2.1, hF.out.cells.2.2.2⟩))
              obtain ⟨o0, o1, _, _⟩ := F.out.cells
              go_upto_region 17 with fail
              go_region_with (first
                | (go_at_call 53; refine (CP.out _ (by first | exact F.out.drew | exact F.out)).mono ?_; rintro e w2 ⟨y, rfl, hy0, hy1, hF2, c0, c1⟩))
              all_goals (
                have F9 := hide (hF2.out.setB (B + (y - 2)))
                have HD9 : Hid (DrC L (B + (y - 2))) := ⟨HD6.out.one, HD6.out.many, HD6.out.c.ps, by omega, by omega⟩
                clear hF2 CP
                go_upto_region 22 with fail
                obtain ⟨W9, hW9⟩ : ∃ W9, W9 = w2.setCell ⟨G, 1, none⟩ (.int .i64 (B + (y - 2))) := ⟨_, rfl⟩
                rw [← hW9] at F9
                rw [show IntKind.i64.wrap (y - 2) = y - 2 from wrap6 (by omega) (by omega), show IntKind.i64.wrap (B + (y - 2)) = B + (y - 2) from wrap6 (by omega) (by omega), ← hW9]
                clear hW9
                obtain ⟨o0, o1, _, _⟩ := F9.out.cells
                obtain ⟨z0, z1, z2, z3⟩ := blkp F9.out.res
                go_wp2
                refine bodyPost_ret (v := .agg #[.slice a n c, .int .i64 (B + (y - 2))]) ?_ ?_ ?_
                · simp [results, Tryd.f31, go_sem, z0, z1]
                · rfl
                · exact ((F9.out.mono (show _ ≤ N + 200 by omega)).out HD9.out)
)
            · by_cases e1 : x7 = 1
              · subst e1
                obtain ⟨g, rfl, hgG, hgw, hnc⟩ := F.out.rowG (by have := HD6.out.one; have := F.out.len; omega)
                have hn0 : 0 < n := by have := HD6.out.one; have := F.out.len; omega
                have hml := F.out.own.len
                have hfl : (flatC M).length = n * 3 := by rw [flatC_len, hml]
                have hpm : (M.getD 0 eV).1 = gc L 0 := by
                  have := pcs_get M 0 (by omega)
                  rw [F.out.pcs] at this
                  exact this.symm
                have d1 := (F.out.own.row.cellAt (0 * 3 + 1) (by omega)).trans (flatC_get M 0 (by omega)).2.1
                have d2 := F.out.own.row.frozenAt (0 * 3 + 1)
                rw [hpm] at d1
                have hsz := (HD6.out.ps 0 (by have := F.out.len; omega)).1
                obtain ⟨s, hs⟩ : ∃ s, s = (gc L 0).s := ⟨_, rfl⟩
                rw [← hs] at d1 hsz
                simp only [Nat.zero_mul, Nat.zero_add] at d1 d2
                have hz2 : (⟨#[4, 97]⟩ : ByteArray).size = 2 := rfl
                have qa : ∀ w : World, (Op.stringOp .add s ⟨#[4, 97]⟩).run Tryd.prog w = .ok (.string (s ++ ⟨#[4, 97]⟩)) w := fun w => run_string_add_sum w _ _ (by omega)
                have SS := F.out.own.setS 0 hn0 (s ++ ⟨#[4, 97]⟩)
                simp only [Nat.zero_mul, Nat.zero_add] at SS
                have F9 := hide (F.out.ofOwn (L' := L.set 0 ⟨(M.getD 0 eV).1.f, s ++ ⟨#[4, 97]⟩, (M.getD 0 eV).1.x⟩) hgG hgw SS.1 SS.2 (by rw [pcs_set, F.out.pcs]) (by simpa using F.out.len))
                have HD9 : Hid (DrC (L.set 0 ⟨(M.getD 0 eV).1.f, s ++ ⟨#[4, 97]⟩, (M.getD 0 eV).1.x⟩) B) := HD6.out.set 0 (by have := F.out.len; omega) _ (by show (_ ++ _ : ByteArray).size ≤ _; rw [ByteArray.size_append, ← hs]; omega) (by rw [hpm]) (by show _ ≤ (M.getD 0 eV).1.f; rw [hpm]; exact Int.le_refl _) (by show (M.getD 0 eV).1.f ≤ _; rw [hpm]; omega)
                obtain ⟨o0, o1, _, _⟩ := F.out.cells
                clear SS hpm hs hml hfl
                go_upto_region 22 with fail
                generalize hW9 : w7.setCell ⟨g, 1, none⟩ (.string (s ++ ⟨#[4, 97]⟩)) = W9 at F9
                try rw [hW9]
                clear hW9 o0 o1 d1 d2 F
                obtain ⟨o0, o1, _, _⟩ := F9.out.cells
                obtain ⟨z0, z1, z2, z3⟩ := blkp F9.out.res
                go_wp2
                refine bodyPost_ret (v := .agg #[.slice (some ⟨g, 0, none⟩) n c, .int .i64 B]) ?_ ?_ ?_
                · simp [results, Tryd.f31, go_sem, z0, z1]
                · rfl
                · exact ((F9.out.mono (show _ ≤ N + 200 by omega)).out HD9.out)
              · by_cases e2 : x7 = 2
                · subst e2
                  obtain ⟨g, rfl, hgG, hgw, hnc⟩ := F.out.rowG (by have := HD6.out.one; have := F.out.len; omega)
                  have hn0 : 0 < n := by have := HD6.out.one; have := F.out.len; omega
                  have hn20 : n ≤ 20 := by have := HD6.out.many; have := F.out.len; omega
                  have hn0I : (0 : Int) < (n : Int) := by omega
                  have CP := hide (fun wx (h : LgF w b G (N + 136) (some ⟨g, 0, none⟩) n c B L M wx) => (pick_lg3 (m := (n : Int)) h (by omega) (by omega) (by omega)).mono (R' := fun e w' => ∃ (i : Nat) (fi : Int), e = .returned (.int .i64 (i : Int)) ∧ i < n ∧ Hid (fi = (gc L i).f) ∧ Hid (LgF w b G (N + 138) (some ⟨g, 0, none⟩) n c B L M w') ∧ w'.cell? ⟨G, 0, none⟩ = some (.slice (some ⟨g, 0, none⟩) n c) ∧ w'.cell? ⟨g, i * 3, none⟩ = some (.int .i64 fi) ∧ w'.frozen? ⟨g, i * 3, none⟩ = false) (by
                    rintro e w' ⟨y, rfl, h0, h1, hF⟩
                    obtain ⟨i, rfl⟩ : ∃ i : Nat, y = (i : Int) := ⟨y.toNat, by omega⟩
                    have hml := hF.out.own.len
                    have hfl : (flatC M).length = n * 3 := by rw [flatC_len, hml]
                    have hpm : (M.getD i eV).1 = gc L i := by
                      have := pcs_get M i (by omega)
                      rw [hF.out.pcs] at this
                      exact this.symm
                    have d1 := (hF.out.own.row.cellAt (i * 3) (by omega)).trans (flatC_get M i (by omega)).1
                    rw [hpm] at d1
                    exact ⟨i, _, rfl, by omega, rfl, hF, hF.out.cells.1, d1, hF.out.own.row.frozenAt (i * 3)⟩))
                  obtain ⟨o0, o1, _, _⟩ := F.out.cells
                  have HFB : Hid (∀ i, i < n → 0 ≤ (gc L i).f ∧ (gc L i).f ≤ 1300) := hide (fun i hi => (HD6.out.ps i (by have := F.out.len; omega)).2.2)
                  go_upto_region 21 with fail
                  go_region_with (first
                    | (go_at_call 53; refine (CP.out _ (by first | exact F.out.drew | exact F.out)).mono ?_; rintro e w2 ⟨i, fi, rfl, hin, hfi, hF2, c0, c1, c2⟩; have hf0 : 0 ≤ fi := (by rw [hfi.out]; exact (HFB.out i hin).1); have hf1 : fi ≤ 1300 := (by rw [hfi.out]; exact (HFB.out i hin).2); have hinI : (i : Int) < (n : Int) := by omega))
                  all_goals (
                    have hml := hF2.out.own.len
                    have hpm : (M.getD i eV).1 = gc L i := by
                      have := pcs_get M i (by omega)
                      rw [hF2.out.pcs] at this
                      exact this.symm
                    have SS := hF2.out.own.setF i hin (fi + 1)
                    have F9 := hide (hF2.out.ofOwn (L' := L.set i ⟨fi + 1, (M.getD i eV).1.s, (M.getD i eV).1.x⟩) hgG hgw SS.1 SS.2 (by rw [pcs_set, hF2.out.pcs]) (by simpa using hF2.out.len))
                    have HD9 : Hid (DrC (L.set i ⟨fi + 1, (M.getD i eV).1.s, (M.getD i eV).1.x⟩) B) := HD6.out.set i (by have := hF2.out.len; omega) _ (by show (M.getD i eV).1.s.size ≤ _; rw [hpm]; omega) (by rw [hpm]) (by show _ ≤ fi + 1; rw [hfi.out]; omega) (by show fi + 1 ≤ _; rw [hfi.out]; exact Int.le_refl _)
                    clear SS hF2 CP
                    go_upto_region 22 with fail
                    obtain ⟨W9, hW9⟩ : ∃ W9, W9 = w2.setCell ⟨g, i * 3, none⟩ (.int .i64 (fi + 1)) := ⟨_, rfl⟩
                    rw [← hW9] at F9
                    rw [show IntKind.i64.wrap (fi + 1) = fi + 1 from wrap6 (by omega) (by omega), ← hW9]
                    clear hW9 F
                    obtain ⟨o0, o1, _, _⟩ := F9.out.cells
                    obtain ⟨z0, z1, z2, z3⟩ := blkp F9.out.res
                    go_wp2
                    refine bodyPost_ret (v := .agg #[.slice (some ⟨g, 0, none⟩) n c, .int .i64 B]) ?_ ?_ ?_
                    · simp [results, Tryd.f31, go_sem, z0, z1]
                    · rfl
                    · exact ((F9.out.mono (show _ ≤ N + 200 by omega)).out HD9.out)
)
                · have q0 : (x7 == 0) = false := by simpa using e0
                  have q1 : (x7 == 1) = false := by simpa using e1
                  have q2 : (x7 == 2) = false := by simpa using e2
                  clear e0 e1 e2
                  obtain ⟨o0, o1, _, _⟩ := F.out.cells
                  obtain ⟨z0, z1, z2, z3⟩ := blkp F.out.res
                  go_wp2
                  refine bodyPost_ret (v := .agg #[.slice a n c, .int .i64 B]) (by simp [results, Tryd.f31, go_sem, z0, z1]) rfl ((F.out.mono (show _ ≤ N + 200 by omega)).out HD6.out.c)
end Go.Proofs.YtbcljhafdpnjbabDoor.L6

namespace Go.Proofs.YtbcljhafdpnjbabDoor.L1
open Go.RowKit
set_option linter.unusedVariables false

theorem grown_then_below {a b c : World} {r : Option Nat} (h : a.grownBy b r) (k : Below a.heap.size b c) : a.grownBy c r :=
  ⟨k.os.trans h.os, k.tape.trans h.tape, k.output.trans h.output, Nat.le_trans h.size k.size, fun i hi hn => (k.block i hi).trans (h.block i hi hn)⟩
theorem Cur.keptBelow {w w' : World} {b N B : Nat} (h : Cur w b N) (hb : Below B w w') (hB : b < B) : Cur w' b N := h.kept fun k hk => hb.block k (by omega)
theorem one_conv (w : World) (x : Int) :
    (convert 22 9 (.slice (some ⟨w.heap.size, 0, none⟩) 1 1)).run Tryd.prog (w.alloc (.cells #[.int .u8 x] 5)) = .ok (.string (strOfNums [x])) (w.alloc (.cells #[.int .u8 x] 5)) :=
  run_convert_bytes_arg _ 22 5 Tryd.underlying22 Tryd.underlying5 w.heap.size 0 1 1 [x] rfl (fun i hi => by
    obtain rfl : i = 0 := by omega
    simp) 9 Tryd.underlying9

set_option maxRecDepth 100000 in
set_option maxHeartbeats 1000000 in
theorem spoilt_any (b N : Nat) (t wi : ByteArray) (w : World) (h : Cur w b N) (hN : N ≤ 10000000) (ht : t.size ≤ 100000) (hw1 : 1 ≤ wi.size) (hw2 : wi.size ≤ 100) :
    Calls Tryd.prog 58 #[.pointer (some ⟨b, 0, none⟩), .string t, .string wi] w fun e w' => ∃ (u : ByteArray), e = .returned (.string u) ∧ u.size ≤ t.size + 2 ∧ Cur w' b (N + 14) ∧ w.grownBy w' (some b) := by
  have HC := hide h
  clear h
  go_enter Tryd.func58, Tryd.ntmps58
  go_wp2_with fail
  refine (pick_any b N _ _ HC.out (by omega) (by omega) (by omega)).mono ?_
  rintro e w1 ⟨x, rfl, hx0, hx1, hx2, hc1, hg1⟩
  have hx3 : x < 3 := hx2 (by omega)
  obtain ⟨k0, rfl⟩ : ∃ k : Nat, x = (k : Int) := ⟨x.toNat, by omega⟩
  have hk0 : k0 ≤ 2 := by omega
  have H1 := hide hc1
  have G1 := hide hg1
  clear hc1 hg1 hx2
  go_wp2
  go_loopw [1, 7] (fun o i wr => ∃ (k : Nat) (u : ByteArray), k ≤ 2 ∧ u.size + k ≤ t.size + 2 ∧ i = .int .i64 (k : Int) ∧ o = .string u ∧ Hid (Cur wr b (N + 14 - 6 * k)) ∧ Hid (w.grownBy wr (some b))) (fun _ i _ => (intOf i).toNat)
  case atStart => exact ⟨k0, t, hk0, by omega, rfl, rfl, H1.out.mono (by omega), G1.out⟩
  case round =>
    obtain ⟨k, u, hk, hu, rfl, rfl, HCr, HGr⟩ := hrel
    by_cases hlt : 0 < k
    · have hltI : (0 : Int) < (k : Int) := by omega
      by_cases hu0 : 0 < u.size
      · have huI : (0 : Int) < (u.size : Int) := by omega
        go_wp2_with fail
        refine (pick_any b (N + 14 - 6 * k) _ _ HCr.out (by omega) (by omega) (by omega)).mono ?_
        rintro e w2 ⟨i, rfl, hi0, hi1, hi2, hc2, hg2⟩
        have hi3 : i < (u.size : Int) := hi2 (by omega)
        obtain ⟨j, rfl⟩ : ∃ j : Nat, i = (j : Int) := ⟨i.toNat, by omega⟩
        have hj : j < u.size := by omega
        have H2 := hide hc2
        have G2 := hide (grown_trans HGr.out hg2)
        clear hc2 hg2 hi2 HCr HGr
        go_wp2_with fail
        refine (pick_any b (N + 14 - 6 * k + 2) _ _ H2.out (by omega) (by omega) (by omega)).mono ?_
        rintro e w3 ⟨i2, rfl, hp0, hp1, hp2, hc3, hg3⟩
        have hp3 : i2 < (wi.size : Int) := hp2 (by omega)
        obtain ⟨q, rfl⟩ : ∃ q : Nat, i2 = (q : Int) := ⟨i2.toNat, by omega⟩
        have hq : q < wi.size := by omega
        have H3 := hide hc3
        have G3 := hide (grown_trans G2.out hg3)
        have hcv := one_conv w3 ((wi[q]'hq).toNat : Int)
        have hWs : (strOfNums [((wi[q]'hq).toNat : Int)]).size = 1 := by rw [strOfNums_size]; rfl
        obtain ⟨Wd, hWd⟩ : ∃ Wd, Wd = strOfNums [((wi[q]'hq).toNat : Int)] := ⟨_, rfl⟩
        rw [← hWd] at hcv hWs
        have hWs2 : Wd.size ≤ 1 := by omega
        have hus : u.size ≤ 100002 := by omega
        have C3 := hide (H3.out.alloc (Obj.cells #[Value.int .u8 ((wi[q]'hq).toNat : Int)] 5))
        have D3 := hide (grown_trans G3.out (grown_alloc w3 (Obj.cells #[Value.int .u8 ((wi[q]'hq).toNat : Int)] 5) b))
        clear hc3 hg3 hp2 H2 G2 H3 G3 hWd hWs
        go_wp2_with fail
        refine (pick_any b (N + 14 - 6 * k + 4) _ _ C3.out (by omega) (by omega) (by omega)).mono ?_
        rintro e w4 ⟨z, rfl, hz0, hz1, hz2, hc4, hg4⟩
        have hz3 : z < 3 := hz2 (by omega)
        have H4 := hide hc4
        have G4 := hide (grown_trans D3.out hg4)
        have hj0I : (0 : Int) ≤ (j : Int) := by omega
        have hj1I : (j : Int) ≤ (u.size : Int) := by omega
        have hj2I : (j : Int) + 1 ≤ (u.size : Int) := by omega
        have hs1 := @ByteArray.size_extract u 0 j
        have hs2 := @ByteArray.size_extract u j u.size
        have hs3 := @ByteArray.size_extract u (j + 1) u.size
        have hb1 : (u.extract 0 j).size ≤ 100002 := by omega
        have hb2 : (u.extract j u.size).size ≤ 100002 := by omega
        have hb3 : (u.extract (j + 1) u.size).size ≤ 100002 := by omega
        have hz : z = 0 ∨ z = 1 ∨ z = 2 := by omega
        have HS := hide (And.intro hs1 (And.intro hs2 hs3))
        clear hc4 hg4 hz2 C3 D3 hs1 hs2 hs3 hcv
        rcases hz with rfl | rfl | rfl
        · go_wp2
          go_quiet (fail)
          go_wp2
          go_roundw
          case rel =>
            refine ⟨k - 1, _, by omega, ?_, by go_num, rfl, (H4.out.kept (fun _ _ => rfl)).mono (by omega), grown_trans G4.out ⟨rfl, rfl, rfl, Nat.le_refl _, fun _ _ _ => rfl⟩⟩
            have := HS.out
            simp only [ByteArray.size_append]
            omega
          case measure => simp [intOf]; omega
        · go_wp2
          go_quiet (fail)
          go_wp2
          go_roundw
          case rel =>
            refine ⟨k - 1, _, by omega, ?_, by go_num, rfl, (H4.out.kept (fun _ _ => rfl)).mono (by omega), grown_trans G4.out ⟨rfl, rfl, rfl, Nat.le_refl _, fun _ _ _ => rfl⟩⟩
            have := HS.out
            simp only [ByteArray.size_append]
            omega
          case measure => simp [intOf]; omega
        · go_wp2
          go_quiet (fail)
          go_wp2
          go_roundw
          case rel =>
            refine ⟨k - 1, _, by omega, ?_, by go_num, rfl, (H4.out.kept (fun _ _ => rfl)).mono (by omega), grown_trans G4.out ⟨rfl, rfl, rfl, Nat.le_refl _, fun _ _ _ => rfl⟩⟩
            have := HS.out
            simp only [ByteArray.size_append]
            omega
          case measure => simp [intOf]; omega
      · have huI : ¬ (0 : Int) < (u.size : Int) := by omega
        go_wp2
        go_ret
        exact ⟨_, rfl, by omega, HCr.out.mono (by omega), HGr.out⟩
    · have hltI : ¬ (0 : Int) < (k : Int) := by omega
      go_wp2
      go_ret
      exact ⟨_, rfl, by omega, HCr.out.mono (by omega), HGr.out⟩
end Go.Proofs.YtbcljhafdpnjbabDoor.L1

namespace Go.Proofs.YtbcljhafdpnjbabDoor.L6
open Go.RowKit L1
set_option linter.unusedVariables false

theorem cur_newL {w : World} {a : Option Addr} {n cap : Nat} (h : Slb w w.heap.size a n) (hn : n ≤ 1048576) : Cur (w.alloc (Obj.cells #[.slice a n cap, .int .i64 0, .int .u64 0] 58)) w.heap.size 0 := by
  refine ⟨a, n, cap, 0, 0, ?_, Nat.le_refl _, hn, ?_⟩
  · show (w.heap.push _)[w.heap.size]? = _
    exact Array.getElem?_push_size
  · intro i hi
    obtain ⟨bb, off, x, ha, hb, hc, hx⟩ := h i hi
    exact ⟨bb, off, x, ha, hb, (((Below.refl w.heap.size w).alloc (Nat.le_refl _) _).cell (p := ⟨bb, off + i, none⟩) hb).trans hc, hx⟩
theorem grown_to_belowL {w w' : World} {o : Obj} (h : (w.alloc o).grownBy w' (some w.heap.size)) : Below w.heap.size w w' := by
  have hal := (Below.refl w.heap.size w).alloc (Nat.le_refl _) o
  refine ⟨h.os.trans hal.os, h.tape.trans hal.tape, h.output.trans hal.output, Nat.le_trans hal.size h.size, fun k hk => (h.block k (Nat.lt_of_lt_of_le hk hal.size) (fun e => ?_)).trans (hal.block k hk)⟩
  cases e
  omega
theorem slb_mono {w : World} {b c : Nat} {a : Option Addr} {n : Nat} (h : Slb w b a n) (hbc : b ≤ c) : Slb w c a n := fun i hi => by
  obtain ⟨bb, off, x, ha, hb, hc, hx⟩ := h i hi
  exact ⟨bb, off, x, ha, Nat.lt_of_lt_of_le hb hbc, hc, hx⟩
theorem slb_alloc {w : World} {b : Nat} {a : Option Addr} {n : Nat} (h : Slb w b a n) (o : Obj) : Slb (w.alloc o) b a n := fun i hi => by
  obtain ⟨bb, off, x, ha, hb, hc, hx⟩ := h i hi
  exact ⟨bb, off, x, ha, hb, Go.Lib.cell?_alloc_some o hc, hx⟩

set_option maxRecDepth 100000 in
set_option maxHeartbeats 1000000 in
theorem drawTearEnd_any (a : Option Addr) (n cap : Nat) (w : World) (h : Slb w w.heap.size a n) (hn : n ≤ 1048576) :
    Calls Tryd.prog 22 #[.slice a n cap] w fun e w' => ∃ ga m gc' B k L M, e = .returned (.tuple #[.agg #[.slice ga m gc', .int .i64 B], .int .i64 k]) ∧ pcs M = L ∧ L.length = m ∧ OwC w' w.heap.size (.slice ga m gc') m M ∧ DrC L B ∧ (-1 ≤ k ∧ k ≤ 29) ∧ Below w.heap.size w w' := by
  obtain ⟨W0, hW0⟩ : ∃ W0, W0 = w.alloc (.cells #[.slice none 0 0, .int .i64 0] 25 (0, 0)) := ⟨_, rfl⟩
  have hz0 : W0.heap.size = w.heap.size + 1 := by rw [hW0]; simp
  have hB0 : Below w.heap.size w W0 := by rw [hW0]; exact (Below.refl _ _).alloc (Nat.le_refl _) _
  have hS0 : Slb W0 W0.heap.size a n := by rw [hW0]; exact slb_mono (slb_alloc h _) (by simp)
  have hR0 : W0.heap[w.heap.size]? = some (.cells #[.slice none 0 0, .int .i64 0] 25 (0, 0)) := by rw [hW0]; exact blk_new _ _
  have HC := hide (cur_newL (cap := cap) hS0 hn)
  have HZ := hide hz0
  have HB0 := hide hB0
  have HR0 := hide hR0
  have HW := hide hW0.symm
  clear h hS0 hB0 hR0 hW0 hz0
  go_enter Tryd.func22, Tryd.ntmps22
  go_upto_region 1 with fail
  rw [HW.out]
  go_wp2_with fail
  refine (log_any _ _ _ HC.out (by omega)).mono ?_
  rintro e w1 ⟨ga, m, gc', B, L, M, rfl, hM, hL, ho, hd, hc, hg⟩
  have O1 := hide ho
  have C1 := hide hc
  have G1 := hide hg
  have HM := hide hM
  have HL := hide hL
  have HD := hide hd
  clear HC ho hc hg hM hL hd
  go_wp2_with fail
  refine (pick_any _ _ 30 _ C1.out (by omega) (by omega) (by omega)).mono ?_
  rintro e w2 ⟨y, rfl, hy0, _, hy1, hc2, hg2⟩
  have hy30 := hy1 (by omega)
  have O2 := hide (O1.out.grown hg2 (by simp))
  have G2 := hide (L1.grown_trans G1.out hg2)
  have B2 := hide (grown_to_belowL G2.out)
  have R2 := hide ((B2.out.block w.heap.size (by have := HZ.out; omega)).trans HR0.out)
  obtain ⟨z0, z1, z2, z3⟩ := blkp R2.out
  have hcur := C1.out.lt
  clear hc2 hg2 G1 C1 O1 hy1
  go_wp2
  refine bodyPost_ret (v := .tuple #[.agg #[.slice ga m gc', .int .i64 B], .int .i64 (y - 1)]) ?_ ?_ ?_
  · simp [results, Tryd.f22, go_sem, z0, z1]
  · rfl
  · have z : w.heap.size < (W0.alloc (Obj.cells #[.slice a n cap, .int .i64 0, .int .u64 0] 58)).heap.size := by have := HZ.out; simp; omega
    exact ⟨ga, m, gc', B, y - 1, L, M, rfl, HM.out, HL.out, ((O2.out.setC ⟨w.heap.size, 0, none⟩ _ z).setC ⟨w.heap.size, 1, none⟩ _ z).base (by have := HZ.out; simp; omega), HD.out, ⟨by omega, by omega⟩, ((HB0.out.trans (B2.out.mono (by have := HZ.out; omega))).setCell (p := ⟨w.heap.size, 0, none⟩) (Nat.le_refl _) _).setCell (p := ⟨w.heap.size, 1, none⟩) (Nat.le_refl _) _⟩

set_option maxRecDepth 100000 in
set_option maxHeartbeats 1000000 in
theorem drawRecoverPiece_any (a : Option Addr) (n cap : Nat) (w : World) (h : Slb w w.heap.size a n) (hn : n ≤ 1048576) :
    Calls Tryd.prog 25 #[.slice a n cap] w fun e w' => ∃ (f : Int) (s : ByteArray), e = .returned (.tuple #[.int .i64 f, .string s]) ∧ (-1 ≤ f ∧ f ≤ 1001) ∧ s.size ≤ 64 ∧ Below w.heap.size w w' := by
  have HC := hide (cur_newL (cap := cap) h hn)
  clear h
  go_enter Tryd.func25, Tryd.ntmps25
  go_wp2_with fail
  refine (log_any _ _ _ HC.out (by omega)).mono ?_
  rintro e w1 ⟨ga, m, gc', B, L, M, rfl, hM, hL, ho, hd, hc, hg⟩
  have hone := hd.one
  have hm0 : 0 < m := by omega
  have hm20 : m ≤ 20 := by have := hd.many; omega
  have hm0I : (0 : Int) < (m : Int) := by omega
  have hsl := ho.sl
  rw [hM] at hsl
  obtain ⟨b, off, rfl, ai, ci, hat⟩ := hsl 0 (by omega)
  have hs0 := hat.s
  have hsz := (hd.ps 0 (by omega)).1
  obtain ⟨s, hs⟩ : ∃ s, s = (gc L 0).s := ⟨_, rfl⟩
  rw [show (L.getD 0 eC).s = s from hs.symm] at hs0
  rw [← hs] at hsz
  rw [Nat.zero_mul, Nat.add_zero] at hs0
  have hcell : ∀ ob, (w1.alloc ob).cell? ⟨b, off + 1, none⟩ = some (.string s) := fun ob => Go.Lib.cell?_alloc_some ob hs0
  have C1 := hide (fun ob => hc.alloc ob)
  have G1 := hide (fun ob => L1.grown_trans hg (L1.grown_alloc _ ob _))
  have hlt1 := hc.lt
  clear HC hM hL ho hd hc hg hone hsl hat hs0 hs
  go_wp2_with fail
  refine (one_any _ _ 2 _ (C1.out _) (by omega) (by omega) (by omega)).mono ?_
  rintro e w3 ⟨q, rfl, hc3, hg3⟩
  have hbd : ∀ j, j < 5 → -1 ≤ [(-1 : Int), 0, 7, 1000, 1001].getD j 0 ∧ [(-1 : Int), 0, 7, 1000, 1001].getD j 0 ≤ 1001 := by decide
  have HBD := hide hbd
  have C3 := hide hc3
  have G3 := hide (L1.grown_trans (G1.out _) hg3)
  clear hbd hc3 hg3 C1 G1 hcell
  go_upto_if 18 with fail
  go_cut [6] (fun t wx => ∃ u : ByteArray, t = .string u ∧ u.size ≤ 64 ∧ Hid (Cur wx w.heap.size 300) ∧ Hid ((w.alloc (Obj.cells #[.slice a n cap, .int .i64 0, .int .u64 0] 58)).grownBy wx (some w.heap.size)))
  case first =>
    cases q with
    | false =>
      go_wp2
      go_meet
      case rel => exact ⟨s, rfl, by omega, hide (C3.out.mono (by omega)), hide G3.out⟩
    | true =>
      go_wp2_with fail
      refine (spoilt_any _ _ s _ _ C3.out (by omega) (by omega) (by decide) (by decide)).mono ?_
      rintro e w4 ⟨u, rfl, hu, hc4, hg4⟩
      have C4 := hide (hc4.mono (show _ ≤ 300 by omega))
      have G4 := hide (L1.grown_trans G3.out hg4)
      clear hc4 hg4 C3 G3
      go_wp2
      go_meet
      case rel => exact ⟨u, rfl, by omega, hide C4.out, hide G4.out⟩
  case rest =>
  obtain ⟨u, rfl, hu64, C5, G5⟩ := hcut
  clear C3 G3
  go_wp2_with fail
  refine (among_any _ _ _ 5 5 [-1, 0, 7, 1000, 1001] _ (C5.out.alloc _) (by omega) rfl (by omega) (by omega) (by have := C5.out.lt; omega) (lit_row _ _ _ rfl)).mono ?_
  rintro e w6 ⟨j, hj, rfl, hc6, hg6⟩
  have hb := HBD.out j hj
  have B6 := hide (grown_to_belowL (L1.grown_trans (L1.grown_trans G5.out (L1.grown_alloc _ _ _)) hg6))
  obtain ⟨f, hf⟩ : ∃ f, f = [(-1 : Int), 0, 7, 1000, 1001].getD j 0 := ⟨_, rfl⟩
  rw [← hf] at hb ⊢
  clear hc6 hg6 hf
  go_wp2
  go_ret2
  exact ⟨f, u, rfl, hb, hu64, B6.out⟩
end Go.Proofs.YtbcljhafdpnjbabDoor.L6

namespace Go.Proofs.YtbcljhafdpnjbabDoor.L6
open Go.RowKit L1
set_option linter.unusedVariables false

set_option maxRecDepth 100000 in
set_option maxHeartbeats 1000000 in
theorem drawAppendLog_any (a : Option Addr) (n cap : Nat) (w : World) (h : Slb w w.heap.size a n) (hn : n ≤ 1048576) :
    Calls Tryd.prog 5 #[.slice a n cap] w fun e w' => ∃ ga m gc' B r L M, e = .returned (.tuple #[.agg #[.slice ga m gc', .int .i64 B], .string r]) ∧ pcs M = L ∧ L.length = m ∧ OwC w' w.heap.size (.slice ga m gc') m M ∧ DrC L B ∧ r.size ≤ 21 ∧ Below w.heap.size w w' := by
  obtain ⟨W0, hW0⟩ : ∃ W0, W0 = w.alloc (.cells #[.slice none 0 0, .int .i64 0] 25 (0, 0)) := ⟨_, rfl⟩
  have hz0 : W0.heap.size = w.heap.size + 1 := by rw [hW0]; simp
  have hB0 : Below w.heap.size w W0 := by rw [hW0]; exact (Below.refl _ _).alloc (Nat.le_refl _) _
  have hR0 : W0.heap[w.heap.size]? = some (.cells #[.slice none 0 0, .int .i64 0] 25 (0, 0)) := by rw [hW0]; exact blk_new _ _
  have hS0 : Slb W0 W0.heap.size a n := by rw [hW0]; exact slb_mono (slb_alloc h _) (by simp)
  have HC := hide (cur_newL (cap := cap) hS0 hn)
  have HZ := hide hz0
  have HB0 := hide hB0
  have HR0 := hide hR0
  have HW := hide hW0.symm
  clear h hS0 hB0 hR0 hW0 hz0
  go_enter Tryd.func5, Tryd.ntmps5
  go_upto_region 1 with fail
  rw [HW.out]
  go_wp2_with fail
  refine (log_any _ _ _ HC.out (by omega)).mono ?_
  rintro e w1 ⟨ga, m, gc', B, L, M, rfl, hM, hL, ho, hd, hc, hg⟩
  have O1 := hide ho
  have C1 := hide hc
  have G1 := hide hg
  have HM := hide hM
  have HL := hide hL
  have HD := hide hd
  clear HC ho hc hg hM hL hd
  go_wp2_with fail
  refine (record_any _ _ _ C1.out (by omega)).mono ?_
  rintro e w2 ⟨r, rfl, hr, hc2, hg2⟩
  have O2 := hide (O1.out.grown hg2 (by simp))
  have G2 := hide (L1.grown_trans G1.out hg2)
  have B2 := hide (grown_to_belowL G2.out)
  have R2 := hide ((B2.out.block w.heap.size (by have := HZ.out; omega)).trans HR0.out)
  obtain ⟨z0, z1, z2, z3⟩ := blkp R2.out
  clear hc2 hg2 G1 C1 O1
  go_wp2
  refine bodyPost_ret (v := .tuple #[.agg #[.slice ga m gc', .int .i64 B], .string r]) ?_ ?_ ?_
  · simp [results, Tryd.f5, go_sem, z0, z1]
  · rfl
  · have z : w.heap.size < (W0.alloc (Obj.cells #[.slice a n cap, .int .i64 0, .int .u64 0] 58)).heap.size := by have := HZ.out; simp; omega
    exact ⟨ga, m, gc', B, r, L, M, rfl, HM.out, HL.out, ((O2.out.setC ⟨w.heap.size, 0, none⟩ _ z).setC ⟨w.heap.size, 1, none⟩ _ z).base (by have := HZ.out; simp; omega), HD.out, hr, ((HB0.out.trans (B2.out.mono (by have := HZ.out; omega))).setCell (p := ⟨w.heap.size, 0, none⟩) (Nat.le_refl _) _).setCell (p := ⟨w.heap.size, 1, none⟩) (Nat.le_refl _) _⟩

theorem DrC.sz {L : List Pc} {B : Int} (h : DrC L B) : SzC L := fun j hj => by
  have := h.ps j hj
  omega
open Classical in
theorem endRes_form (L : List Pc) (B : Int) : ∃ (r : Int) (ok : Bool), endRes L B = (if ok then some r else none) ∧ (ok = false → r = 0) ∧ (0 ≤ r ∧ r ≤ 100060) ∧ (ok = true ↔ GoodG L B) ∧ (ok = true → r = endg L) := by
  by_cases h : GoodG L B
  · have hb := h.end0
    exact ⟨endg L, true, by unfold endRes; rw [if_pos h]; rfl, fun e => (by cases e), ⟨by omega, by omega⟩, ⟨fun _ => h, fun _ => rfl⟩, fun _ => rfl⟩
  · exact ⟨0, false, by unfold endRes; rw [if_neg h]; rfl, fun _ => rfl, ⟨by omega, by omega⟩, ⟨fun e => (by cases e), fun h2 => absurd h2 h⟩, fun e => (by cases e)⟩
theorem cell_setS {w : World} {p q : Addr} {v : Value} (h : q.block ≠ p.block) : (w.setCell p v).cell? q = w.cell? q := by
  have := Below.heap_setCell w p v q.block h
  simp only [World.cell?, this]
theorem grown_setS {w w' : World} {b : Nat} {p : Addr} {v : Value} (h : w.grownBy w' (some b)) (hp : w.heap.size ≤ p.block) : w.grownBy (w'.setCell p v) (some b) :=
  ⟨h.os, h.tape, h.output, by simp; exact h.size, fun k hk hn => (Below.heap_setCell _ _ _ _ (by omega)).trans (h.block k hk hn)⟩
/-- What logAt answers. -/
def DrA (w : World) (b N : Nat) (e : Ending) (w' : World) : Prop :=
  ∃ a n c B o L M, e = .returned (.tuple #[.agg #[.slice a n c, .int .i64 B], .int .i64 o]) ∧ L6.pcs M = L ∧ L.length = n ∧ OwC w' w.heap.size (.slice a n c) n M ∧ DrC L B ∧ (-1 ≤ o ∧ o ≤ 65535) ∧ Cur w' b N ∧ w.grownBy w' (some b)
set_option maxRecDepth 100000 in
set_option maxHeartbeats 2000000 in
theorem logAt_any (b N : Nat) (w : World) (h : Cur w b N) (hN : N ≤ 1000000) :
    Calls Tryd.prog 69 #[.pointer (some ⟨b, 0, none⟩)] w (DrA w b (N + 202)) := by
  obtain ⟨W0, hW0⟩ : ∃ W0, W0 = w.alloc (.cells #[.slice none 0 0, .int .i64 0] 25 (0, 0)) := ⟨_, rfl⟩
  have hz0 : W0.heap.size = w.heap.size + 1 := by rw [hW0]; simp
  have hB0 : Below w.heap.size w W0 := by rw [hW0]; exact (Below.refl _ _).alloc (Nat.le_refl _) _
  have hR0 : W0.heap[w.heap.size]? = some (.cells #[.slice none 0 0, .int .i64 0] 25 (0, 0)) := by rw [hW0]; exact blk_new _ _
  have hbw := h.lt
  have HC : Hid (Cur W0 b N) := by rw [hW0]; exact hide (h.alloc _)
  have HG0 : Hid (w.grownBy W0 (some b)) := by rw [hW0]; exact hide (L1.grown_alloc _ _ _)
  have HZ := hide hz0
  have HR0 := hide hR0
  have HW := hide hW0.symm
  clear h hB0 hR0 hW0 hz0
  go_enter Tryd.func69, Tryd.ntmps69
  go_upto_region 1 with fail
  rw [HW.out]
  go_wp2_with fail
  refine (log_any _ _ _ HC.out (by omega)).mono ?_
  rintro e w1 ⟨ga, m, gc', B, L, M, rfl, hM, hL, ho, hd, hc, hg⟩
  obtain ⟨en, oe, hr, hr0, hbd, _, _⟩ := endRes_form L B
  have hm20 : m ≤ 20 := by have := hd.many; omega
  have hsl := ho.sl
  rw [hM] at hsl
  have CE := hide (fun wx (hb : Below w1.heap.size w1 wx) => specEndOf_any ga L m gc' B wx hL (by omega) (hsl.below hb) hd.sz en oe hr hr0)
  obtain ⟨hen0, hen1⟩ := hbd
  have hz1 := hg.size
  have O1 := hide ho
  have C1 := hide hc
  have G1 := hide (L1.grown_trans HG0.out hg)
  have hlt1 := hc.lt
  have R1 := hide ((hg.block w.heap.size (by have := HZ.out; omega) (by simp; omega)).trans HR0.out)
  have HM := hide hM
  have HL := hide hL
  have HD := hide hd
  clear HC ho hc hg hM hL hd hsl hr hr0 HG0 HR0
  go_wp2_with fail
  refine (CE.out _ ((Below.refl _ _).alloc (Nat.le_refl _) _)).mono ?_
  rintro e w2 ⟨rfl, hb2⟩
  obtain ⟨x0, x1, _, _⟩ := blkp ((hb2.block w1.heap.size (by simp)).trans (blk_new _ _))
  have hal := ((Below.refl w1.heap.size w1).alloc (Nat.le_refl _) (.cells #[.slice ga m gc', .int .i64 B] 25 (0, 0))).trans (hb2.mono (by simp))
  have C2 := hide (C1.out.below hal)
  have O2 := hide (O1.out.below hal)
  have G2 := hide (L1.grown_trans G1.out (L1.below_grown hal))
  have R2 := hide ((hal.block w.heap.size (by have := HZ.out; omega)).trans R1.out)
  have hz2 : w1.heap.size < w2.heap.size := by have := hb2.size; simp at this; omega
  have hw4 : IntKind.i64.wrap (en + 4) = en + 4 := wrap6 (by omega) (by omega)
  clear hal hb2 C1 O1 G1 R1 CE
  have CP := hide (fun wx (hc : Cur wx b (N + 200)) => pick_any b (N + 200) (en + 4) wx hc (by omega) (by omega) (by omega))
  go_upto_region 3 with fail
  go_wp2
  refine wp_region_held_drew (S := fun wx => wx.cell? ⟨w1.heap.size, 0, none⟩ = some (.slice ga m gc') ∧ wx.cell? ⟨w1.heap.size, 1, none⟩ = some (.int .i64 B)) (by kernel_rfl) ⟨x0, x1⟩ (fun hHeld => ?_)
  refine wpAnyH_take (i := 0) (v := ?v1) rfl (by kernel_rfl) (by kernel_rfl) (by kernel_rfl) (fun _ _ _ h => h) (Or.inl ⟨by rfl, ?y1⟩) (by assumption) ?r1
  case y1 => (intro w hSw; (try dsimp only at hSw); go_simp; try (with_reducible rfl))
  simp only [List.getElem_toArray, List.getElem_cons_zero, Act.put, List.setIfInBounds_toArray, List.set_cons_zero, List.set_cons_succ]
  refine wpAnyH_take (i := 1) (v := ?v2) rfl (by kernel_rfl) (by kernel_rfl) (by kernel_rfl) (fun _ _ _ h => h) (Or.inl ⟨by rfl, ?y2⟩) (by assumption) ?r2
  case y2 => (intro w hSw; (try dsimp only at hSw); go_simp; try (with_reducible rfl))
  simp only [List.getElem_toArray, List.getElem_cons_succ, List.getElem_cons_zero, Act.put, List.setIfInBounds_toArray, List.set_cons_zero, List.set_cons_succ]
  refine wpAnyH_take (i := 2) (v := ?v3) rfl (by kernel_rfl) (by kernel_rfl) (by kernel_rfl) (fun _ _ _ h => h) (Or.inl ⟨by rfl, ?y3⟩) (by assumption) ?r3
  case y3 => (intro w hSw; (try dsimp only at hSw); go_simp; try (with_reducible rfl))
  simp only [List.getElem_toArray, List.getElem_cons_succ, List.getElem_cons_zero, Act.put, List.setIfInBounds_toArray, List.set_cons_zero, List.set_cons_succ]
  refine wpAnyH_take (i := 3) (v := ?v4) rfl (by kernel_rfl) (by kernel_rfl) (by kernel_rfl) (fun _ _ _ h => h) (Or.inl ⟨by rfl, ?y4⟩) (by assumption) ?r4
  case y4 => (intro w hSw; (try dsimp only at hSw); go_simp; try (with_reducible rfl))
  simp only [List.getElem_toArray, List.getElem_cons_succ, List.getElem_cons_zero, Act.put, List.setIfInBounds_toArray, List.set_cons_zero, List.set_cons_succ]
  refine wpAnyH_ready (rs := [4]) (by kernel_rfl) (by simp) ?_
  refine AllReadyH.cons rfl (fun K hK => ?_) AllReadyH.nil
  simp only [List.getElem_toArray, List.getElem_cons_succ, List.getElem_cons_zero]
  go_simp
  go_at_call 53
  refine (CP.out _ (C2.out.below (Below.refl _ _).drew)).mono ?_
  rintro e w3 ⟨y, rfl, hy0, hy1, _, hc3, hg3⟩
  dsimp only
  refine hK.out _ _ ?_ (fun hHeld => ?_)
  · exact ⟨grown_cell hg3 ⟨w1.heap.size, 0, none⟩ hHeld.1 (by simp; omega), grown_cell hg3 ⟨w1.heap.size, 1, none⟩ hHeld.2 (by simp; omega)⟩
  clear hK K
  try simp only [Act.put, List.setIfInBounds_toArray, List.set_cons_zero, List.set_cons_succ]
  refine wpAnyH_take (i := 5) (v := ?v5) rfl (by kernel_rfl) (by kernel_rfl) (by kernel_rfl) (fun _ _ _ h => h) (Or.inl ⟨by rfl, ?y5⟩) (by assumption) ?r5
  case y5 => (intro w hSw; (try dsimp only at hSw); go_simp; try (with_reducible rfl))
  simp only [List.getElem_toArray, List.getElem_cons_succ, List.getElem_cons_zero, Act.put, List.setIfInBounds_toArray, List.set_cons_zero, List.set_cons_succ]
  have G3 := hide (L1.grown_trans (L1.grown_trans G2.out (L1.below_grown (Below.refl _ _).drew)) hg3)
  have R3 := (hg3.block w.heap.size (by show w.heap.size < w2.heap.size; have := HZ.out; omega) (by simp; omega)).trans R2.out
  obtain ⟨z0, z1, z2, z3⟩ := blkp R3
  have O3 := hide ((O2.out.below (Below.refl _ _).drew).grown hg3 (by have := HZ.out; omega))
  refine wpAnyH_ready (rs := [6]) (by kernel_rfl) (by simp) ?_
  refine AllReadyH.cons rfl (fun K' hK' => ?_) AllReadyH.nil
  simp only [List.getElem_toArray, List.getElem_cons_succ, List.getElem_cons_zero]
  go_simp
  refine hK'.out _ _ ?_ (fun hHeld => ?_)
  · exact ⟨(cell_setS (by show w1.heap.size ≠ w.heap.size; have := HZ.out; omega)).trans ((cell_setS (by show w1.heap.size ≠ w.heap.size; have := HZ.out; omega)).trans hHeld.1), (cell_setS (by show w1.heap.size ≠ w.heap.size; have := HZ.out; omega)).trans ((cell_setS (by show w1.heap.size ≠ w.heap.size; have := HZ.out; omega)).trans hHeld.2)⟩
  clear hK' K'
  try simp only [Act.put, List.setIfInBounds_toArray, List.set_cons_zero, List.set_cons_succ]
  refine wpAnyH_take (i := 7) (v := ?v6) rfl (by kernel_rfl) (by kernel_rfl) (by kernel_rfl) (fun _ _ _ h => h) (Or.inl ⟨by rfl, ?y6⟩) (by assumption) ?r6
  case y6 => (intro w hSw; (try dsimp only at hSw); go_simp; try (with_reducible rfl))
  simp only [List.getElem_toArray, List.getElem_cons_succ, List.getElem_cons_zero, Act.put, List.setIfInBounds_toArray, List.set_cons_zero, List.set_cons_succ]
  refine wpAnyH_done (by kernel_rfl) ?_ _
  have C3 := hide hc3
  have R4 := (heap_setCell_same _ w.heap.size 1 _ _ (.int .i64 B) (heap_setCell_same _ w.heap.size 0 _ _ (.slice ga m gc') R3))
  obtain ⟨W5, hW5⟩ : ∃ W5, W5 = (w3.setCell ⟨w.heap.size, 0, none⟩ (.slice ga m gc')).setCell ⟨w.heap.size, 1, none⟩ (.int .i64 B) := ⟨_, rfl⟩
  have z : w.heap.size < W0.heap.size := by have := HZ.out; omega
  have FIN := hide (show DrA w b (N + 202) (.returned (.tuple #[.agg #[.slice ga m gc', .int .i64 B], .int .i64 (y - 1)])) W5 by
    rw [hW5]
    refine ⟨ga, m, gc', B, y - 1, L, M, rfl, HM.out, HL.out, ((O3.out.setC ⟨w.heap.size, 0, none⟩ _ z).setC ⟨w.heap.size, 1, none⟩ _ z).base (by omega), HD.out, ⟨by omega, by omega⟩, ?_, grown_setS (grown_setS G3.out (Nat.le_refl _)) (Nat.le_refl _)⟩
    exact C3.out.kept (fun k hk => (Below.heap_setCell _ _ _ _ (show k ≠ w.heap.size by omega)).trans (Below.heap_setCell _ _ _ _ (show k ≠ w.heap.size by omega))))
  rw [← hW5] at R4 ⊢
  obtain ⟨y0, y1, y2, y3⟩ := blkp (R4.trans rfl)
  clear hW5 R3 R4 z0 z1 z2 z3 hc3 hg3 G3 O3 C3 hHeld
  go_wp2
  refine bodyPost_ret (v := .tuple #[.agg #[.slice ga m gc', .int .i64 B], .int .i64 (y - 1)]) ?_ rfl FIN.out
  simp [results, Tryd.f69, go_sem, y0, y1]
  exact wrap6 (by omega) (by omega)

set_option maxRecDepth 100000 in
set_option maxHeartbeats 1000000 in
theorem drawReadAt_any (a : Option Addr) (n cap : Nat) (w : World) (h : Slb w w.heap.size a n) (hn : n ≤ 1048576) :
    Calls Tryd.prog 51 #[.slice a n cap] w fun e w' => ∃ ga m gc' B k L M, e = .returned (.tuple #[.agg #[.slice ga m gc', .int .i64 B], .int .i64 k]) ∧ pcs M = L ∧ L.length = m ∧ OwC w' w.heap.size (.slice ga m gc') m M ∧ DrC L B ∧ (-1 ≤ k ∧ k ≤ 65535) ∧ Below w.heap.size w w' := by
  obtain ⟨W0, hW0⟩ : ∃ W0, W0 = w.alloc (.cells #[.slice none 0 0, .int .i64 0] 25 (0, 0)) := ⟨_, rfl⟩
  have hz0 : W0.heap.size = w.heap.size + 1 := by rw [hW0]; simp
  have hB0 : Below w.heap.size w W0 := by rw [hW0]; exact (Below.refl _ _).alloc (Nat.le_refl _) _
  have hR0 : W0.heap[w.heap.size]? = some (.cells #[.slice none 0 0, .int .i64 0] 25 (0, 0)) := by rw [hW0]; exact blk_new _ _
  have hS0 : Slb W0 W0.heap.size a n := by rw [hW0]; exact slb_mono (slb_alloc h _) (by simp)
  have HS := hide hS0
  have HZ := hide hz0
  have HB0 := hide hB0
  have HR0 := hide hR0
  have HW := hide hW0.symm
  clear h hS0 hB0 hR0 hW0 hz0
  go_enter Tryd.func51, Tryd.ntmps51
  go_upto_region 1 with fail
  rw [HW.out]
  go_wp2_with fail
  refine (logAt_any _ _ _ (cur_newL (cap := cap) HS.out hn) (by omega)).mono ?_
  rintro e w2 ⟨ga, m, gc', B, k, L, M, rfl, hM, hL, ho, hd, hk, hc, hg⟩
  have B2 := hide (grown_to_belowL hg)
  have O2 := hide (ho.base (b2 := W0.heap.size) (by simp))
  clear hc hg ho
  have R2 := hide ((B2.out.block w.heap.size (by have := HZ.out; omega)).trans HR0.out)
  obtain ⟨z0, z1, z2, z3⟩ := blkp R2.out
  have HM := hide hM
  have HL := hide hL
  have HD := hide hd
  have HK := hide hk
  clear hM hL hd hk
  go_wp2
  refine bodyPost_ret (v := .tuple #[.agg #[.slice ga m gc', .int .i64 B], .int .i64 k]) ?_ ?_ ?_
  · simp [results, Tryd.f51, go_sem, z0, z1]
  · rfl
  · have z : w.heap.size < W0.heap.size := by have := HZ.out; omega
    exact ⟨ga, m, gc', B, k, L, M, rfl, HM.out, HL.out, ((O2.out.setC ⟨w.heap.size, 0, none⟩ _ z).setC ⟨w.heap.size, 1, none⟩ _ z).base (by omega), HD.out, HK.out, ((HB0.out.trans (B2.out.mono (by omega))).setCell (p := ⟨w.heap.size, 0, none⟩) (Nat.le_refl _) _).setCell (p := ⟨w.heap.size, 1, none⟩) (Nat.le_refl _) _⟩

set_option maxRecDepth 100000 in
set_option maxHeartbeats 1000000 in
theorem drawCutFrom_any (a : Option Addr) (n cap : Nat) (w : World) (h : Slb w w.heap.size a n) (hn : n ≤ 1048576) :
    Calls Tryd.prog 17 #[.slice a n cap] w fun e w' => ∃ ga m gc' B k L M, e = .returned (.tuple #[.agg #[.slice ga m gc', .int .i64 B], .int .i64 k]) ∧ pcs M = L ∧ L.length = m ∧ OwC w' w.heap.size (.slice ga m gc') m M ∧ DrC L B ∧ (-1 ≤ k ∧ k ≤ 65535) ∧ Below w.heap.size w w' := by
  obtain ⟨W0, hW0⟩ : ∃ W0, W0 = w.alloc (.cells #[.slice none 0 0, .int .i64 0] 25 (0, 0)) := ⟨_, rfl⟩
  have hz0 : W0.heap.size = w.heap.size + 1 := by rw [hW0]; simp
  have hB0 : Below w.heap.size w W0 := by rw [hW0]; exact (Below.refl _ _).alloc (Nat.le_refl _) _
  have hR0 : W0.heap[w.heap.size]? = some (.cells #[.slice none 0 0, .int .i64 0] 25 (0, 0)) := by rw [hW0]; exact blk_new _ _
  have hS0 : Slb W0 W0.heap.size a n := by rw [hW0]; exact slb_mono (slb_alloc h _) (by simp)
  have HS := hide hS0
  have HZ := hide hz0
  have HB0 := hide hB0
  have HR0 := hide hR0
  have HW := hide hW0.symm
  clear h hS0 hB0 hR0 hW0 hz0
  go_enter Tryd.func17, Tryd.ntmps17
  go_upto_region 1 with fail
  rw [HW.out]
  go_wp2_with fail
  refine (drawReadAt_any _ _ _ _ HS.out hn).mono ?_
  rintro e w2 ⟨ga, m, gc', B, k, L, M, rfl, hM, hL, ho, hd, hk, hb⟩
  have B2 := hide hb
  have O2 := hide ho
  clear hb ho
  have R2 := hide ((B2.out.block w.heap.size (by have := HZ.out; omega)).trans HR0.out)
  obtain ⟨z0, z1, z2, z3⟩ := blkp R2.out
  have HM := hide hM
  have HL := hide hL
  have HD := hide hd
  have HK := hide hk
  clear hM hL hd hk
  go_wp2
  refine bodyPost_ret (v := .tuple #[.agg #[.slice ga m gc', .int .i64 B], .int .i64 k]) ?_ ?_ ?_
  · simp [results, Tryd.f17, go_sem, z0, z1]
  · rfl
  · have z : w.heap.size < W0.heap.size := by have := HZ.out; omega
    exact ⟨ga, m, gc', B, k, L, M, rfl, HM.out, HL.out, ((O2.out.setC ⟨w.heap.size, 0, none⟩ _ z).setC ⟨w.heap.size, 1, none⟩ _ z).base (by omega), HD.out, HK.out, ((HB0.out.trans (B2.out.mono (by omega))).setCell (p := ⟨w.heap.size, 0, none⟩) (Nat.le_refl _) _).setCell (p := ⟨w.heap.size, 1, none⟩) (Nat.le_refl _) _⟩

end Go.Proofs.YtbcljhafdpnjbabDoor.L6

namespace Go.Proofs.YtbcljhafdpnjbabDoor.L6
open Go.RowKit L1
set_option linter.unusedVariables false

/-- What AllOf hands back, whether there is a log or not. -/
theorem allOf_form2 {w : World} {L : List Pc} {B : Int} {D : List ByteArray} {n : Nat} {ok : Bool} (hD : D = (allRes L B).getD []) (hn : D.length = n) (hk : (allRes L B).isSome = ok) : ∀ e w', RetT w (allRes L B) e w' → ∃ a c, e = .returned (.tuple #[.slice a n c, .bool ok]) ∧ SlT w' a D ∧ n ≤ c ∧ (a = none → c = 0) ∧ Below w.heap.size w w' := by
  rintro e w' ⟨v, rfl, ho, hb⟩
  rw [← hD, hn] at ho
  obtain ⟨a, c, rfl, hs, _⟩ := own_formT ho
  obtain ⟨h1, h2⟩ := own_capT ho
  exact ⟨a, c, by rw [hk], hs, h1, h2, hb⟩
theorem allRes_some {L : List Pc} {B : Int} {ok : Bool} (h : ok = true ↔ GoodG L B) : (allRes L B).isSome = ok := by
  classical
  unfold allRes
  by_cases hg : GoodG L B
  · rw [if_pos hg, h.2 hg]
    rfl
  · rw [if_neg hg]
    cases ok with
    | false => rfl
    | true => exact absurd (h.1 rfl) hg
theorem allRes_get {L : List Pc} {B : Int} (h : GoodG L B) : (allRes L B).getD [] = allG L B := by
  classical
  unfold allRes
  rw [if_pos h]
  rfl
open Classical in
theorem readRes_form (L : List Pc) (B o : Int) : ∃ (r : ByteArray) (ok : Bool), readRes L B o = (if ok then some r else none) ∧ (ok = false → r = ByteArray.empty) := by
  by_cases h : GoodG L B ∧ B ≤ o ∧ o < endg L
  · exact ⟨rdAt L o, true, by unfold readRes; rw [if_pos h]; rfl, fun e => (by cases e)⟩
  · exact ⟨ByteArray.empty, false, by unfold readRes; rw [if_neg h]; rfl, fun _ => rfl⟩
open Classical in
theorem both_is (L : List Pc) (B o : Int) : ∃ CL CB DL DB k, CutIs L B o CL CB k ∧ DropIs L B o DL DB k ∧ (k = true → CutOk L B o ∧ CL = cutL L o ∧ CB = B ∧ DL = dropW L o ∧ DB = o) := by
  by_cases h : CutOk L B o
  · exact ⟨_, _, _, _, true, ⟨fun _ => ⟨rfl, rfl, rfl⟩, fun h' => absurd h h'⟩, ⟨fun _ => ⟨rfl, rfl, rfl⟩, fun h' => absurd h h'⟩, fun _ => ⟨h, rfl, rfl, rfl, rfl⟩⟩
  · exact ⟨_, _, _, _, false, ⟨fun h' => absurd h' h, fun _ => ⟨rfl, rfl, rfl⟩⟩, ⟨fun h' => absurd h' h, fun _ => ⟨rfl, rfl, rfl⟩⟩, fun e => (by cases e)⟩
open Classical in
theorem drop_few {L L' : List Pc} {B o B' : Int} {ok : Bool} (h : DropIs L B o L' B' ok) : L'.length ≤ 20 ∧ ∀ i, i < L'.length → (gc L' i).x.length ≤ 60 := by
  by_cases hc : CutOk L B o
  · obtain ⟨h1, _, _⟩ := h.yes hc
    rw [h1, drop_spot hc.1]
    refine ⟨by have := hc.1.many; simp; omega, fun i hi => ?_⟩
    have hi' : pcAt L o (L.length - 1) + i < L.length := by simp at hi; omega
    have e : gc (L.drop (pcAt L o (L.length - 1))) i = gc L (pcAt L o (L.length - 1) + i) := by simp [gc, List.getD]
    rw [e]
    exact hc.1.small rfl _ hi'
  · obtain ⟨h1, _, _⟩ := h.no hc
    rw [h1]
    exact ⟨by simp, fun i hi => by simp at hi⟩
/-- Of a log with a record more, cut at the old end, the old records are told. -/
theorem AppLaw.back {L L' : List Pc} {B B' : Int} {r : ByteArray} (h : AppLaw L B r L' B') : CutOk L' B' (endg L) ∧ GoodG (cutL L' (endg L)) B' ∧ allG (cutL L' (endg L)) B' = allG L B := by
  have h1 := h.g.end0
  have h2 := h.fin
  have h3 := h.b
  have hl := all_len h.g
  have hc : CutOk L' B' (endg L) := ⟨h.g', by omega, by omega⟩
  obtain ⟨k1, _, k3⟩ := cutLaw hc
  refine ⟨hc, k1, ?_⟩
  rw [k3, h.all, h3, show (endg L - B).toNat = (allG L B).length by omega, List.take_left]
end Go.Proofs.YtbcljhafdpnjbabDoor.L6

namespace Go.Proofs.YtbcljhafdpnjbabDoor.L6
open Go.RowKit L1
set_option linter.unusedVariables false

theorem slT_cells {w : World} {b off : Nat} {xs : List ByteArray} (h : SlT w (some ⟨b, off, none⟩) xs) : ∀ j u, (mapT xs)[j]? = some u → w.cell? ((⟨b, off, none⟩ : Addr).add j) = some u := fun j u hu => by
  have hj : j < xs.length := by
    by_cases hj : j < xs.length
    · exact hj
    · rw [List.getElem?_eq_none (by simp; omega)] at hu; cases hu
  rw [add_at6]
  obtain ⟨b', off', ha, hc⟩ := h j hj
  cases ha
  rw [hc, ← mapT_get xs j hj, hu]
/-- 'append' of a list behind one that is the call's own. -/
theorem wpList_append_txt {ops : Array Oper} {rest : List Oper} {o : Oper} {a : Act} {Q : Exit → Act → World → Prop} {w : World} (hw : Region.wanted o (yielded ops a.tmps) = true) (s x : Operand)
    (ho : o.op = .call { callee := .builtin .append, args := #[s, x], argTypes := #[32, 32] })
    (m base : Nat) (ad ax : Option Addr) (k cd n c : Nat) (O xs : List ByteArray) (hm : k + n = m) (hO : O.length = k) (hxs : xs.length = n) (hk2 : k ≤ 1048576) (hn2 : n ≤ 1048576) (hs : a.eval s = .slice ad k cd) (hown : w.ownsRow base 9 1 (.slice ad k cd) k (mapT O)) (hx : a.eval x = .slice ax n c) (hsl : SlT w ax xs) (hbase : base ≤ w.heap.size)
    (h : ∀ a' c' w', w'.ownsRow base 9 1 (.slice a' m c') m (mapT (O ++ xs)) → w.grownBy w' (Value.slice ad k cd).ownBlock → wpList Tryd.prog ops Q rest (a.put o.dst (.slice a' m c')) w') : wpList Tryd.prog ops Q (o :: rest) a w := by
  subst hm
  obtain ⟨i0, hi, hz0, hz1, hz2⟩ := info_parts info_str6
  by_cases h0 : n = 0
  · subst h0
    have hx0 : xs = [] := List.eq_nil_of_length_eq_zero hxs
    subst hx0
    have hr : (Builtin.append_ #[32, 32] o.type #[.slice ad k cd, .slice ax 0 c]).run Tryd.prog w = .ok (.slice ad k cd) w := by
      refine run_append_nothing w 32 32 o.type 9 i0 Tryd.underlying32 hi ad k cd ((own_capT hown).1) _ ?_
      cases ax with
      | none => exact Src.ofNil _ Tryd.underlying32 c
      | some x => exact Src.ofSlice _ Tryd.underlying32 x 0 c [] (by simp) (fun j u hu => by simp at hu) (fun u hu => by simp at hu)
    refine wpList_step fun K hK => ?_
    rw [if_pos hw]
    unfold Oper.wp execOp
    simp only [ho, resolve, invoke, builtin, Sem.run_bind, Sem.run_pure, Result.andThen_ok, List.map_toArray, List.map_cons, List.map_nil, hs, hx, hr]
    exact hK _ _ (h ad cd w (by simpa using hown) (World.grownBy.refl _ _))
  · obtain ⟨b, off, rfl, _⟩ := hsl 0 (by omega)
    refine wpList_step fun K hK => ?_
    rw [if_pos hw]
    refine wp_append_lies w s x 32 ho base 9 i0 (.string ByteArray.empty) 1 16 Tryd.underlying32 hi hz0 hz1 hz2 rfl (by decide) (.slice ad k cd) k (mapT O) hs hown ⟨b, off, none⟩ n c (mapT xs) hx (by simp; omega) (slT_cells hsl) (mapT_one xs) (by omega) (by unfold maxLen; omega) (by omega) hbase _ rfl ?_
    intro g' c' w' h1 h2 _ _
    rw [show mapT O ++ mapT xs = mapT (O ++ xs) from by simp [mapT]] at h1
    exact hK _ _ (h (some ⟨g', 0, none⟩) c' w' h1 h2)
theorem own_emptyT (w : World) (base : Nat) (hb : base ≤ w.heap.size) : (w.alloc (.cells #[] 9)).ownsRow base 9 1 (.slice (some ⟨w.heap.size, 0, none⟩) 0 0) 0 (mapT []) :=
  ⟨rfl, .inr ⟨w.heap.size, 0, #[], rfl, hb, (by show (w.heap.push _)[w.heap.size]? = _; exact Array.getElem?_push_size), Nat.le_refl _, by unfold maxLen; omega, rfl, rfl⟩⟩
end Go.Proofs.YtbcljhafdpnjbabDoor.L6

namespace Go.Proofs.YtbcljhafdpnjbabDoor.L4
set_option linter.unusedVariables false

/-- Posts are good. -/
def GoodP (l : List Int) : Prop := l.length ≤ 60 ∧ ∀ j, j < l.length → (0 ≤ l.getD j 0 ∧ l.getD j 0 ≤ 9999) ∧ (0 < j → l.getD (j - 1) 0 < l.getD j 0)
def Rise (l : List Int) : Prop := l.Pairwise fun x y => x < y

theorem getD_eq {l : List Int} {j : Nat} (h : j < l.length) : l.getD j 0 = l[j] := by simp [List.getD, List.getElem?_eq_getElem h]
theorem getD_mem {l : List Int} {j : Nat} (h : j < l.length) : l.getD j 0 ∈ l := by rw [getD_eq h]; exact List.getElem_mem h
theorem mem_getD {l : List Int} {x : Int} (h : x ∈ l) : ∃ j, j < l.length ∧ l.getD j 0 = x := by
  obtain ⟨j, hj, e⟩ := List.getElem_of_mem h
  exact ⟨j, hj, by rw [getD_eq hj]; exact e⟩
theorem rise_get {l : List Int} (h : Rise l) {i j : Nat} (hij : i < j) (hj : j < l.length) : l.getD i 0 < l.getD j 0 := by
  rw [getD_eq hj, getD_eq (Nat.lt_trans hij hj)]
  exact List.pairwise_iff_getElem.1 h i j _ _ hij
theorem rise_le {l : List Int} (h : Rise l) {i j : Nat} (hij : i ≤ j) (hj : j < l.length) : l.getD i 0 ≤ l.getD j 0 := by
  by_cases e : i = j
  · subst e; omega
  · have := rise_get h (show i < j by omega) hj; omega
theorem rise_of_step {l : List Int} (h : ∀ j, j < l.length → 0 < j → l.getD (j - 1) 0 < l.getD j 0) : Rise l := by
  refine List.pairwise_iff_getElem.2 fun i j hi hj hij => ?_
  have key : ∀ d, i + 1 + d < l.length → l.getD i 0 < l.getD (i + 1 + d) 0 := fun d => by
    induction d with
    | zero => intro hd; have := h (i + 1) hd (by omega); simpa using this
    | succ d ih =>
      intro hd
      have h1 := ih (by omega)
      have h2 := h (i + 1 + (d + 1)) hd (by omega)
      have e : i + 1 + (d + 1) - 1 = i + 1 + d := by omega
      rw [e] at h2
      omega
  have := key (j - i - 1) (by omega)
  rw [show i + 1 + (j - i - 1) = j by omega, getD_eq hi, getD_eq hj] at this
  exact this
theorem good_rise {l : List Int} (h : GoodP l) : Rise l := rise_of_step fun j hj h0 => (h.2 j hj).2 h0
theorem rise_uniq : ∀ {l m : List Int}, Rise l → Rise m → (∀ x, x ∈ l ↔ x ∈ m) → l = m
  | [], [], _, _, _ => rfl
  | [], y :: m, _, _, h => by have := (h y).2 (by simp); simp at this
  | x :: l, [], _, _, h => by have := (h x).1 (by simp); simp at this
  | x :: l, y :: m, hl, hm, h => by
    have hl' := List.pairwise_cons.1 hl
    have hm' := List.pairwise_cons.1 hm
    have e : x = y := by
      have h1 := (h x).1 (by simp)
      have h2 := (h y).2 (by simp)
      simp only [List.mem_cons] at h1 h2
      rcases h1 with h1 | h1
      · exact h1
      · rcases h2 with h2 | h2
        · exact h2.symm
        · have := hm'.1 x h1; have := hl'.1 y h2; omega
    subst e
    rw [rise_uniq hl'.2 hm'.2 fun z => by
      have hz := h z
      simp only [List.mem_cons] at hz
      constructor
      · intro hz1
        rcases hz.1 (.inr hz1) with e | e
        · subst e; have := hl'.1 z hz1; omega
        · exact e
      · intro hz1
        rcases hz.2 (.inr hz1) with e | e
        · subst e; have := hm'.1 z hz1; omega
        · exact e]

/-- How many at the front are less. -/
def lp (n : Int) : List Int → Nat
  | [] => 0
  | x :: l => if x < n then lp n l + 1 else 0
theorem lp_le (n : Int) : ∀ l : List Int, lp n l ≤ l.length
  | [] => Nat.le_refl _
  | x :: l => by
    have := lp_le n l
    unfold lp
    split <;> simp <;> omega
theorem lp_lt (n : Int) : ∀ (l : List Int) (j : Nat), j < lp n l → l.getD j 0 < n
  | [], j, h => by simp [lp] at h
  | x :: l, j, h => by
    unfold lp at h
    split at h
    · cases j with
      | zero => simpa
      | succ j => simpa using lp_lt n l j (by omega)
    · omega
theorem lp_stop (n : Int) : ∀ (l : List Int), lp n l < l.length → ¬ l.getD (lp n l) 0 < n
  | [], h => by simp at h
  | x :: l, h => by
    unfold lp at h ⊢
    split
    · rename_i hx
      rw [if_pos hx] at h
      simpa using lp_stop n l (by simpa using h)
    · rename_i hx
      simpa using Int.not_lt.1 hx
theorem lp_at {n : Int} : ∀ (l : List Int) (k : Nat), k ≤ l.length → (∀ j, j < k → l.getD j 0 < n) → (k < l.length → ¬ l.getD k 0 < n) → lp n l = k := fun l k hk h1 h2 => by
  rcases Nat.lt_trichotomy (lp n l) k with h | h | h
  · exact absurd (h1 _ h) (lp_stop n l (by omega))
  · exact h
  · have := lp_le n l
    exact absurd (lp_lt n l k h) (h2 (by omega))
theorem count_lp (n : Int) : ∀ {l : List Int}, Rise l → l.countP (fun y => decide (y < n)) = lp n l
  | [], _ => rfl
  | x :: l, h => by
    have h' := List.pairwise_cons.1 h
    rw [List.countP_cons, count_lp n h'.2]
    conv => rhs; unfold lp
    by_cases hx : x < n
    · simp [hx]
    · have h0 : lp n l = 0 := by
        have := h'.1
        cases l with
        | nil => rfl
        | cons z zs =>
          have := this z (by simp)
          unfold lp
          rw [if_neg (by omega)]
      simp [hx, h0]
/-- The first place from a place on with a number that is great enough. -/
def leap (l : List Int) (f : Nat) (n : Int) : Nat := f + lp n (l.drop f)
theorem drop_getD (l : List Int) (f j : Nat) : (l.drop f).getD j 0 = l.getD (f + j) 0 := by simp [List.getD]
theorem leap_ge (l : List Int) (f : Nat) (n : Int) : f ≤ leap l f n := by unfold leap; omega
theorem leap_le (l : List Int) (f : Nat) (n : Int) (hf : f ≤ l.length) : leap l f n ≤ l.length := by
  have := lp_le n (l.drop f)
  unfold leap
  simp at this
  omega
theorem leap_lt (l : List Int) (f : Nat) (n : Int) (j : Nat) (h1 : f ≤ j) (h2 : j < leap l f n) : l.getD j 0 < n := by
  unfold leap at h2
  have := lp_lt n (l.drop f) (j - f) (by omega)
  rw [drop_getD, show f + (j - f) = j by omega] at this
  exact this
theorem leap_stop (l : List Int) (f : Nat) (n : Int) (h : leap l f n < l.length) : ¬ l.getD (leap l f n) 0 < n := by
  unfold leap at h ⊢
  have := lp_stop n (l.drop f) (by simp; omega)
  rw [drop_getD] at this
  exact this
theorem leap_at {l : List Int} {f k : Nat} {n : Int} (hfk : f ≤ k) (hk : k ≤ l.length) (h1 : ∀ j, f ≤ j → j < k → l.getD j 0 < n) (h2 : k < l.length → ¬ l.getD k 0 < n) : leap l f n = k := by
  have := lp_at (n := n) (l.drop f) (k - f) (by simp; omega) (fun j hj => by rw [drop_getD]; exact h1 _ (by omega) (by omega)) (fun h => by
    rw [drop_getD, show f + (k - f) = k by omega]
    exact h2 (by simp at h; omega))
  unfold leap
  omega

/-- What both have; what the first alone has. -/
def those (b : List Int) (s : Bool) (a : List Int) : List Int := a.filter fun x => decide (x ∈ b) == s
theorem those_len (a b : List Int) (s : Bool) : (those b s a).length ≤ a.length := List.length_filter_le _ _
theorem those_snoc (a b : List Int) (s : Bool) (k : Nat) (h : k < a.length) : those b s (a.take (k + 1)) = if (decide (a.getD k 0 ∈ b) == s) = true then those b s (a.take k) ++ [a.getD k 0] else those b s (a.take k) := by
  unfold those
  rw [List.take_succ_eq_append_getElem h, List.filter_append, getD_eq h]
  by_cases e : (decide (a[k] ∈ b) == s) = true
  · rw [if_pos e]; simp [e]
  · rw [if_neg e]; simp only [Bool.not_eq_true] at e; simp [e]
theorem leap_mem {b : List Int} {f : Nat} {x : Int} (hb : Rise b) (hf : f ≤ b.length) (h : ∀ j, j < f → b.getD j 0 < x) : x ∈ b ↔ leap b f x < b.length ∧ b.getD (leap b f x) 0 = x := by
  constructor
  · intro hx
    obtain ⟨j, hj, e⟩ := mem_getD hx
    have h1 : ¬ j < leap b f x := fun hlt => by
      by_cases hjf : j < f
      · have := h j hjf; omega
      · have := leap_lt b f x j (by omega) hlt; omega
    have h2 : leap b f x ≤ j := by omega
    have h3 := leap_stop b f x (by omega)
    have h4 := rise_le hb h2 hj
    exact ⟨by omega, by omega⟩
  · rintro ⟨h1, h2⟩
    rw [← h2]
    exact getD_mem h1

/-- A number put into a list. -/
def put (l : List Int) (x : Int) : List Int := if lp x l < l.length ∧ l.getD (lp x l) 0 = x then l else l.take (lp x l) ++ x :: l.drop (lp x l)
theorem put_len (l : List Int) (x : Int) : (put l x).length ≤ l.length + 1 := by
  unfold put
  split
  · omega
  · simp; omega
theorem put_mem (l : List Int) (x y : Int) : y ∈ put l x ↔ y = x ∨ y ∈ l := by
  unfold put
  split
  · rename_i h
    constructor
    · exact .inr
    · rintro (rfl | h1)
      · have h2 := h.2
        have := getD_mem h.1
        rwa [h2] at this
      · exact h1
  · have e := List.take_append_drop (lp x l) l
    constructor
    · intro h
      simp only [List.mem_append, List.mem_cons] at h
      rcases h with h | h | h
      · exact .inr (List.mem_of_mem_take h)
      · exact .inl h
      · exact .inr (List.mem_of_mem_drop h)
    · rintro (rfl | h)
      · simp
      · rw [← e] at h
        simp only [List.mem_append, List.mem_cons] at h ⊢
        rcases h with h | h
        · exact .inl h
        · exact .inr (.inr h)
theorem take_lt {l : List Int} {k : Nat} {x y : Int} (h : ∀ j, j < k → l.getD j 0 < x) (hy : y ∈ l.take k) : y < x := by
  obtain ⟨j, hj, e⟩ := mem_getD hy
  have hj' : j < k ∧ j < l.length := by simp at hj; omega
  have := h j hj'.1
  rw [getD_eq hj] at e
  rw [getD_eq hj'.2] at this
  simp at e
  omega
theorem drop_mem {l : List Int} {k : Nat} {y : Int} (hy : y ∈ l.drop k) : ∃ j, k ≤ j ∧ j < l.length ∧ l.getD j 0 = y := by
  obtain ⟨j, hj, e⟩ := mem_getD hy
  rw [drop_getD] at e
  exact ⟨k + j, by omega, by simp at hj; omega, e⟩
theorem put_rise {l : List Int} {x : Int} (h : Rise l) : Rise (put l x) := by
  unfold put
  split
  · exact h
  · rename_i hno
    refine List.pairwise_append.2 ⟨h.sublist (List.take_sublist _ _), List.pairwise_cons.2 ⟨fun y hy => ?_, h.sublist (List.drop_sublist _ _)⟩, fun y hy z hz => ?_⟩
    · obtain ⟨j, hj, hl, e⟩ := drop_mem hy
      have h1 := lp_stop x l (by omega)
      have h2 := rise_le h hj hl
      by_cases e2 : l.getD (lp x l) 0 = x
      · exact absurd ⟨by omega, e2⟩ hno
      · omega
    · have h1 := take_lt (lp_lt x l) hy
      simp only [List.mem_cons] at hz
      rcases hz with rfl | hz
      · exact h1
      · obtain ⟨j, hj, hl, e⟩ := drop_mem hz
        have h2 := lp_stop x l (by omega)
        have h3 := rise_le h hj hl
        omega
/-- Those of either. -/
def joinL (a b : List Int) : List Int := b.foldl put a
theorem joinL_snoc (a b : List Int) (k : Nat) (h : k < b.length) : joinL a (b.take (k + 1)) = put (joinL a (b.take k)) (b.getD k 0) := by
  unfold joinL
  rw [List.take_succ_eq_append_getElem h, List.foldl_append, getD_eq h]
  rfl
theorem joinL_len (a b : List Int) : ∀ k, (joinL a (b.take k)).length ≤ a.length + k
  | 0 => by simp [joinL]
  | k + 1 => by
    have ih := joinL_len a b k
    by_cases h : k < b.length
    · rw [joinL_snoc a b k h]
      have := put_len (joinL a (b.take k)) (b.getD k 0)
      omega
    · rw [List.take_of_length_le (by omega)] at ih ⊢
      omega
theorem joinL_mem : ∀ (b a : List Int) (y : Int), y ∈ joinL a b ↔ y ∈ a ∨ y ∈ b
  | [], a, y => by simp [joinL]
  | x :: b, a, y => by
    have := joinL_mem b (put a x) y
    unfold joinL at this ⊢
    rw [List.foldl_cons, this, put_mem]
    simp only [List.mem_cons]
    constructor
    · rintro ((h | h) | h)
      · exact .inr (.inl h)
      · exact .inl h
      · exact .inr (.inr h)
    · rintro (h | h | h)
      · exact .inl (.inr h)
      · exact .inl (.inl h)
      · exact .inr h
theorem joinL_rise : ∀ (b a : List Int), Rise a → Rise (joinL a b)
  | [], a, h => h
  | x :: b, a, h => joinL_rise b (put a x) (put_rise h)

/-- The program's way: a's numbers one by one, those of b that are less ahead of each. -/
def jst (a b : List Int) : Nat → List Int × Nat
  | 0 => ([], 0)
  | k + 1 =>
    let u := leap b (jst a b k).2 (a.getD k 0)
    ((jst a b k).1 ++ (b.drop (jst a b k).2).take (u - (jst a b k).2) ++ [a.getD k 0], if u < b.length ∧ b.getD u 0 = a.getD k 0 then u + 1 else u)
/-- What holds after k of a's numbers. -/
structure JInv (a b : List Int) (k : Nat) : Prop where
  le : (jst a b k).2 ≤ b.length
  rise : Rise (jst a b k).1
  mem : ∀ y, y ∈ (jst a b k).1 ↔ y ∈ a.take k ∨ y ∈ b.take (jst a b k).2
  low : ∀ y ∈ (jst a b k).1, ∀ j, k ≤ j → j < a.length → y < a.getD j 0
  high : ∀ y ∈ (jst a b k).1, ∀ j, (jst a b k).2 ≤ j → j < b.length → y < b.getD j 0
  len : (jst a b k).1.length ≤ k + (jst a b k).2
theorem take_mem_iff {l : List Int} {k : Nat} {y : Int} : y ∈ l.take k ↔ ∃ j, j < k ∧ j < l.length ∧ l.getD j 0 = y := by
  constructor
  · intro h
    obtain ⟨j, hj, e⟩ := mem_getD h
    have hj' : j < k ∧ j < l.length := by simp at hj; omega
    refine ⟨j, hj'.1, hj'.2, ?_⟩
    rw [getD_eq hj] at e
    rw [getD_eq hj'.2]
    simpa using e
  · rintro ⟨j, h1, h2, rfl⟩
    rw [getD_eq h2]
    exact List.mem_take_iff_getElem.2 ⟨j, by omega, rfl⟩
theorem seg_mem {l : List Int} {f u : Nat} {y : Int} : y ∈ (l.drop f).take (u - f) ↔ ∃ j, f ≤ j ∧ j < u ∧ j < l.length ∧ l.getD j 0 = y := by
  rw [take_mem_iff]
  constructor
  · rintro ⟨j, h1, h2, h3⟩
    rw [drop_getD] at h3
    exact ⟨f + j, by omega, by omega, by simp at h2; omega, h3⟩
  · rintro ⟨j, h1, h2, h3, h4⟩
    exact ⟨j - f, by omega, by simp; omega, by rw [drop_getD, show f + (j - f) = j by omega]; exact h4⟩
theorem jinv {a b : List Int} (ha : Rise a) (hb : Rise b) : ∀ k, k ≤ a.length → JInv a b k
  | 0, _ => ⟨Nat.zero_le _, List.Pairwise.nil, fun y => by simp [jst], fun y hy => by simp [jst] at hy, fun y hy => by simp [jst] at hy, Nat.zero_le _⟩
  | k + 1, hk => by
    have I := jinv ha hb k (by omega)
    obtain ⟨⟨o, f⟩, e⟩ : ∃ p, p = jst a b k := ⟨_, rfl⟩
    have h1 := I.le; have h2 := I.rise; have h3 := I.mem; have h4 := I.low; have h5 := I.high; have h6 := I.len
    rw [← e] at h1 h2 h3 h4 h5 h6
    simp only at h1 h2 h3 h4 h5 h6
    obtain ⟨x, hx⟩ : ∃ x, x = a.getD k 0 := ⟨_, rfl⟩
    obtain ⟨u, hu⟩ : ∃ u, u = leap b f x := ⟨_, rfl⟩
    have u1 : f ≤ u := by rw [hu]; exact leap_ge _ _ _
    have u2 : u ≤ b.length := by rw [hu]; exact leap_le _ _ _ h1
    have u3 : ∀ j, f ≤ j → j < u → b.getD j 0 < x := fun j q1 q2 => leap_lt b f x j q1 (by rw [← hu]; exact q2)
    have u4 : u < b.length → ¬ b.getD u 0 < x := fun q => by have := leap_stop b f x (by rw [← hu]; exact q); rwa [← hu] at this
    obtain ⟨g, hg⟩ : ∃ g, g = if u < b.length ∧ b.getD u 0 = x then u + 1 else u := ⟨_, rfl⟩
    have e2 : jst a b (k + 1) = (o ++ (b.drop f).take (u - f) ++ [x], g) := by
      rw [hg, hu, hx]
      conv => lhs; unfold jst
      rw [← e]
    have g1 : u ≤ g ∧ g ≤ b.length ∧ (g = u ∨ (g = u + 1 ∧ b.getD u 0 = x)) := by
      rw [hg]
      split
      · rename_i q; exact ⟨by omega, by omega, .inr ⟨rfl, q.2⟩⟩
      · exact ⟨Nat.le_refl _, u2, .inl rfl⟩
    have g2 : ∀ j, g ≤ j → j < b.length → x < b.getD j 0 := fun j q1 q2 => by
      have w1 := rise_le hb (show u ≤ j by omega) q2
      have w2 := u4 (by omega)
      rw [hg] at q1
      split at q1
      · rename_i q; have := rise_get hb (show u < j by omega) q2; omega
      · rename_i q
        by_cases e3 : b.getD u 0 = x
        · exact absurd ⟨by omega, e3⟩ q
        · omega
    have ox : ∀ y ∈ o, y < x := fun y hy => by rw [hx]; exact h4 y hy k (Nat.le_refl _) (by omega)
    have newmem : ∀ y, y ∈ o ++ (b.drop f).take (u - f) ++ [x] ↔ y ∈ o ∨ (∃ j, f ≤ j ∧ j < u ∧ j < b.length ∧ b.getD j 0 = y) ∨ y = x := fun y => by
      simp only [List.mem_append, List.mem_singleton, seg_mem]
      constructor
      · rintro ((q | q) | q)
        · exact .inl q
        · exact .inr (.inl q)
        · exact .inr (.inr q)
      · rintro (q | q | q)
        · exact .inl (.inl q)
        · exact .inl (.inr q)
        · exact .inr q
    have lex : ∀ y, y ∈ o ++ (b.drop f).take (u - f) ++ [x] → y ≤ x := fun y hy => by
      rcases (newmem y).1 hy with q | ⟨j, q1, q2, q3, q4⟩ | q
      · have := ox y q; omega
      · have := u3 j q1 q2; omega
      · omega
    refine ⟨?_, ?_, ?_, ?_, ?_, ?_⟩ <;> rw [e2] <;> simp only
    · exact g1.2.1
    · refine List.pairwise_append.2 ⟨List.pairwise_append.2 ⟨h2, (hb.sublist (List.drop_sublist _ _)).sublist (List.take_sublist _ _), fun y hy z hz => ?_⟩, by simp, fun y hy z hz => ?_⟩
      · obtain ⟨j, q1, q2, q3, q4⟩ := seg_mem.1 hz
        have := h5 y hy j q1 q3
        omega
      · simp only [List.mem_singleton] at hz
        subst hz
        rcases List.mem_append.1 hy with q | q
        · exact ox y q
        · obtain ⟨j, q1, q2, q3, q4⟩ := seg_mem.1 q
          have := u3 j q1 q2
          omega
    · intro y
      rw [newmem, h3, take_mem_iff, take_mem_iff, take_mem_iff, take_mem_iff]
      constructor
      · rintro ((⟨j, q1, q2, q3⟩ | ⟨j, q1, q2, q3⟩) | ⟨j, q1, q2, q3, q4⟩ | q)
        · exact .inl ⟨j, by omega, q2, q3⟩
        · exact .inr ⟨j, by omega, q2, q3⟩
        · exact .inr ⟨j, by omega, q3, q4⟩
        · exact .inl ⟨k, by omega, by omega, by rw [q, hx]⟩
      · rintro (⟨j, q1, q2, q3⟩ | ⟨j, q1, q2, q3⟩)
        · by_cases ej : j = k
          · subst ej; exact .inr (.inr (by rw [← q3, hx]))
          · exact .inl (.inl ⟨j, by omega, q2, q3⟩)
        · by_cases ej : j < f
          · exact .inl (.inr ⟨j, ej, q2, q3⟩)
          · by_cases ej2 : j < u
            · exact .inr (.inl ⟨j, by omega, ej2, q2, q3⟩)
            · rcases g1.2.2 with q | ⟨q, q'⟩
              · omega
              · obtain rfl : j = u := by omega
                exact .inr (.inr (by rw [← q3, q']))
    · intro y hy j q1 q2
      have := lex y hy
      have := rise_get ha (show k < j by omega) q2
      omega
    · intro y hy j q1 q2
      have := lex y hy
      have := g2 j q1 q2
      omega
    · simp; omega
theorem join_eq {a b : List Int} (ha : Rise a) (hb : Rise b) : (jst a b a.length).1 ++ b.drop (jst a b a.length).2 = joinL a b := by
  have I := jinv ha hb a.length (Nat.le_refl _)
  refine rise_uniq (List.pairwise_append.2 ⟨I.rise, hb.sublist (List.drop_sublist _ _), fun y hy z hz => ?_⟩) (joinL_rise b a ha) fun y => ?_
  · obtain ⟨j, q1, q2, q3⟩ := drop_mem hz
    have := I.high y hy j q1 q2
    omega
  · rw [joinL_mem, List.mem_append, I.mem, List.take_length]
    conv => rhs; rw [← List.take_append_drop (jst a b a.length).2 b]
    rw [List.mem_append]
    constructor
    · rintro ((q | q) | q)
      · exact .inl q
      · exact .inr (.inl q)
      · exact .inr (.inr q)
    · rintro (q | q | q)
      · exact .inl (.inl q)
      · exact .inl (.inr q)
      · exact .inr q
end Go.Proofs.YtbcljhafdpnjbabDoor.L4
