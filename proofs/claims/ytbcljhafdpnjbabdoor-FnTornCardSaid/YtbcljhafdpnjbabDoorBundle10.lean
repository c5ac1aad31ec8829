/-
  Contract: spec.EndOf.
  A log that is being drawn: the cursor, the box that holds it, its memory; and the contracts of a record put behind and of what is dropped ahead, said of it.
  A piece's number, a piece's text written over. Nothing of the program's text is proved here.
  Contract: (*spec.l1Cur).log: some log of few, small pieces, in new memory.
  Contract of the specification's spoilt: some text, not much longer.
  Contracts: spec.DrawTearEnd, spec.DrawRecoverPiece: a drawn log and a number; a number and a text that is not long.
  Contract: impl.TearEnd.
  Contract: spec.TearEnd.
-/
import Derived.Test.YtbcljhafdpnjbabDoorBundle7
import Derived.Test.YtbcljhafdpnjbabDoorBundle8
import Derived.Test.YtbcljhafdpnjbabDoorBundle9
import Derived.Test.YtbcljhafdpnjbabDoorBundle5
import Derived.Test.YtbcljhafdpnjbabDoorBundle4
import Derived.Deep.RegionWith
import Derived.Deep.Cut
import Derived.Test.YtbcljhafdpnjbabDoorBundle1
import Derived.Test.YtbcljhafdpnjbabDoorBundle6
import Derived.Test.YtbcljhafdpnjbabDoorBundle2
import Derived.Test.YtbcljhafdpnjbabDoorBundle3
import Derived.Deep.RegionHeld3
import Derived.Deep.DeepCutAuto
namespace Go.Proofs.YtbcljhafdpnjbabDoor.L6
open Go.RowKit L1
set_option linter.unusedVariables false

open Classical in
set_option maxRecDepth 100000 in
set_option maxHeartbeats 1000000 in
theorem specEndOf_any (a : Option Addr) (L : List Pc) (n cap : Nat) (B : Int) (w : World) (hn : L.length = n) (hm : n ≤ 9223372036854775807) (hs : SlC w a L) (hst : SzC L) (r : Int) (ok : Bool) (hr : endRes L B = if ok then some r else none) (hr0 : ok = false → r = 0) :
    Calls Tryd.prog 9 #[.agg #[.slice a n cap, .int .i64 B]] w fun e w' => e = .returned (.tuple #[.int .i64 r, .bool ok]) ∧ Below w.heap.size w w' := by
  obtain ⟨bk, hbk⟩ : ∃ bk : Bool, bk = true ↔ GoodG L B := ⟨decide (GoodG L B), by simp⟩
  have C1 := hide (fun wx (hb : Below w.heap.size w wx) => specGoodLog_any a L n cap B wx hn hm (hs.below hb) hst bk hbk)
  cases bk with
  | false =>
    have hg : ¬ GoodG L B := fun h => absurd (hbk.2 h) (by simp)
    have hok : ok = false := by
      unfold endRes at hr
      rw [if_neg hg] at hr
      cases ok with
      | false => rfl
      | true => simp at hr
    obtain rfl := hr0 hok
    subst hok
    clear hr hs hn hst hbk hg hr0
    go_enter Tryd.func9, Tryd.ntmps9
    go_wp2_with fail
    refine (C1.out _ ((Below.refl _ _).alloc (Nat.le_refl _) _)).mono ?_
    rintro e w1 ⟨rfl, hb1⟩
    have B1 := hide (((Below.refl w.heap.size w).alloc (Nat.le_refl _) (.cells #[.slice a n cap, .int .i64 B] 25 (0, 0))).trans (hb1.mono (by simp)))
    clear hb1
    go_wp2
    go_ret2
    exact ⟨rfl, B1.out⟩
  | true =>
    have hg := hbk.1 rfl
    have hE : ok = true ∧ r = lastEnd L n := by
      unfold endRes at hr
      rw [if_pos hg, show endg L = lastEnd L n by rw [← hn]; exact end_last hg.one hg.ps] at hr
      cases ok with
      | false => simp at hr
      | true => simp at hr; exact ⟨rfl, hr.symm⟩
    obtain ⟨rfl, rfl⟩ := hE
    have C2 := hide (fun wx (hb : Below w.heap.size w wx) => l6End_good a L n cap B wx hn (hs.below hb) hg B)
    obtain ⟨E, hE⟩ : ∃ E, E = lastEnd L n := ⟨_, rfl⟩
    rw [← hE] at C2 ⊢
    clear hr hs hn hst hbk hg hr0 hE
    go_enter Tryd.func9, Tryd.ntmps9
    go_wp2_with fail
    refine (C1.out _ ((Below.refl _ _).alloc (Nat.le_refl _) _)).mono ?_
    rintro e w1 ⟨rfl, hb1⟩
    have B1 := hide (((Below.refl w.heap.size w).alloc (Nat.le_refl _) (.cells #[.slice a n cap, .int .i64 B] 25 (0, 0))).trans (hb1.mono (by simp)))
    obtain ⟨k0, k1⟩ := blk2s ((hb1.block w.heap.size (by simp)).trans (blk_new _ _))
    clear hb1
    go_wp2_with fail
    refine (C2.out _ B1.out).mono ?_
    rintro e w2 ⟨rfl, hb2⟩
    have B2 := hide (B1.out.trans (hb2.mono B1.out.size))
    clear hb2
    go_wp2
    go_ret2
    exact ⟨rfl, B2.out⟩
end Go.Proofs.YtbcljhafdpnjbabDoor.L6

namespace Go.Proofs.YtbcljhafdpnjbabDoor.L6
open Go.RowKit L1
set_option linter.unusedVariables false

structure LgF (w : World) (b G N : Nat) (a : Option Addr) (n c : Nat) (B : Int) (L : List Pc) (M : List PV) (wr : World) : Prop where
  hb : b < w.heap.size
  hG : w.heap.size < G
  cur : Cur wr b N
  gr : w.grownBy wr (some b)
  res : wr.heap[w.heap.size]? = some (.cells #[.slice none 0 0, .int .i64 0] 25 (0, 0))
  box : wr.heap[G]? = some (.cells #[.slice a n c, .int .i64 B] 25 (0, 0))
  pcs : pcs M = L
  len : L.length = n
  own : OwC wr (w.heap.size + 1) (.slice a n c) n M
theorem LgF.lt {w wr : World} {b G N n c : Nat} {a : Option Addr} {B : Int} {L : List Pc} {M : List PV} (h : LgF w b G N a n c B L M wr) : G < wr.heap.size := (Array.getElem?_eq_some_iff.1 h.box).1
theorem LgF.step {w wr wx : World} {b G N N' n c : Nat} {a : Option Addr} {B : Int} {L : List Pc} {M : List PV} (h : LgF w b G N a n c B L M wr) (hc : Cur wx b N') (hg : wr.grownBy wx (some b)) : LgF w b G N' a n c B L M wx := by
  have h1 := h.hb
  have h2 := h.hG
  have h3 := h.lt
  exact ⟨h1, h2, hc, grown_trans h.gr hg, (hg.block _ (by omega) (by simp; omega)).trans h.res, (hg.block _ h3 (by simp; omega)).trans h.box, h.pcs, h.len, h.own.grown hg (by omega)⟩
theorem LgF.below {w wr wx : World} {b G N n c : Nat} {a : Option Addr} {B : Int} {L : List Pc} {M : List PV} (h : LgF w b G N a n c B L M wr) (hb : Below wr.heap.size wr wx) : LgF w b G N a n c B L M wx :=
  h.step (h.cur.below hb) (below_grown hb)
theorem LgF.drew {w wr : World} {b G N n c : Nat} {a : Option Addr} {B : Int} {L : List Pc} {M : List PV} (h : LgF w b G N a n c B L M wr) : LgF w b G N a n c B L M wr.drew := h.below (Below.refl _ _).drew
theorem LgF.alloc {w wr : World} {b G N n c : Nat} {a : Option Addr} {B : Int} {L : List Pc} {M : List PV} (h : LgF w b G N a n c B L M wr) (o : Obj) : LgF w b G N a n c B L M (wr.alloc o) := h.below ((Below.refl _ _).alloc (Nat.le_refl _) _)
theorem LgF.mono {w wr : World} {b G N N' n c : Nat} {a : Option Addr} {B : Int} {L : List Pc} {M : List PV} (h : LgF w b G N a n c B L M wr) (hn : N ≤ N') : LgF w b G N' a n c B L M wr := ⟨h.hb, h.hG, h.cur.mono hn, h.gr, h.res, h.box, h.pcs, h.len, h.own⟩
theorem LgF.sl {w wr : World} {b G N n c : Nat} {a : Option Addr} {B : Int} {L : List Pc} {M : List PV} (h : LgF w b G N a n c B L M wr) : SlC wr a L := by
  have := h.own.sl
  rw [h.pcs] at this
  exact this
/-- Another log is put into the box. -/
theorem LgF.put {w wr : World} {b G N n c n' c' : Nat} {a a' : Option Addr} {B B' : Int} {L L' : List Pc} {M M' : List PV} (h : LgF w b G N a n c B L M wr) (hp : L6.pcs M' = L') (hl : L'.length = n') (ho : OwC wr (w.heap.size + 1) (.slice a' n' c') n' M') :
    LgF w b G N a' n' c' B' L' M' ((wr.setCell ⟨G, 0, none⟩ (.slice a' n' c')).setCell ⟨G, 1, none⟩ (.int .i64 B')) := by
  have h1 := h.hb
  have h2 := h.hG
  have b1 := heap_setCell_same wr G 0 _ _ (.slice a' n' c') h.box
  have b2 := heap_setCell_same _ G 1 _ _ (.int .i64 B') b1
  have blk : ∀ q, q ≠ G → ((wr.setCell ⟨G, 0, none⟩ (.slice a' n' c')).setCell ⟨G, 1, none⟩ (.int .i64 B')).heap[q]? = wr.heap[q]? := fun q hq => (Below.heap_setCell _ _ _ _ (show q ≠ G from hq)).trans (Below.heap_setCell _ _ _ _ (show q ≠ G from hq))
  refine ⟨h1, h2, h.cur.kept (fun k hk => blk k (by omega)), ⟨h.gr.os, h.gr.tape, h.gr.output, by simp; exact h.gr.size, fun q hq hn => (blk q (by omega)).trans (h.gr.block q hq hn)⟩, (blk _ (by omega)).trans h.res, b2.trans rfl, hp, hl, (ho.setBC h.box).setBC b1⟩
theorem LgF.cells {w wr : World} {b G N n c : Nat} {a : Option Addr} {B : Int} {L : List Pc} {M : List PV} (h : LgF w b G N a n c B L M wr) : wr.cell? ⟨G, 0, none⟩ = some (.slice a n c) ∧ wr.cell? ⟨G, 1, none⟩ = some (.int .i64 B) ∧ wr.frozen? ⟨G, 0, none⟩ = false ∧ wr.frozen? ⟨G, 1, none⟩ = false := blkp h.box

/-- A log handed back by a call, new. -/
def NewG (w : World) (P : List Pc → Int → Prop) (a : Option Addr) (n c : Nat) (B : Int) (ok : Bool) (w3 : World) : Prop :=
  ok = true → ∃ L M, L6.pcs M = L ∧ L.length = n ∧ OwC w3 (w.heap.size + 1) (.slice a n c) n M ∧ P L B
theorem record_lg {w wr : World} {b G N n c : Nat} {a : Option Addr} {B : Int} {L : List Pc} {M : List PV} (h : LgF w b G N a n c B L M wr) (hN : N ≤ 1000000000) :
    Calls Tryd.prog 32 #[.pointer (some ⟨b, 0, none⟩)] wr fun e w' => ∃ r : ByteArray, e = .returned (.string r) ∧ r.size ≤ 21 ∧ LgF w b G (N + 2) a n c B L M w' := by
  refine (record_any b N wr h.cur hN).mono ?_
  rintro e w' ⟨r, rfl, hr, hc, hg⟩
  exact ⟨r, rfl, hr, h.step hc hg⟩
theorem append_lg {w wr : World} {b G N n c : Nat} {a : Option Addr} {B : Int} {L : List Pc} {M : List PV} (h : LgF w b G N a n c B L M wr) (hd : DrB L B) (h0 : (gc L 0).f = 0) (r : ByteArray) (hr : r.size ≤ 21) :
    Calls Tryd.prog 7 #[.agg #[.slice a n c, .int .i64 B], .string r] wr fun e w' => ∃ a' n' c' B' ok, e = .returned (.tuple #[.agg #[.slice a' n' c', .int .i64 B'], .bool ok]) ∧ LgF w b G N a n c B L M w' ∧ NewG w (fun L B => DrB L B ∧ (gc L 0).f = 0) a' n' c' B' ok w' := by
  obtain ⟨L', B', ok, ha⟩ := app_is L B r
  refine (specAppend_any a L n c B r wr h.len (by have := hd.many; have := h.len; omega) h.sl hd.sz (by omega) L' B' ok ha).mono ?_
  rintro e w' ⟨a', c', rfl, M', hM, ho, hb⟩
  refine ⟨a', _, c', B', ok, rfl, h.below hb, fun e => ?_⟩
  subst e
  obtain ⟨k1, k2, k3⟩ := dr_app hd h0 ha
  exact ⟨L', M', hM, rfl, ho.base (by have := h.lt; have := h.hG; omega), k1, k2⟩
theorem drop_lg {w wr : World} {b G N n c : Nat} {a : Option Addr} {B : Int} {L : List Pc} {M : List PV} (h : LgF w b G N a n c B L M wr) (hd : DrB L B) (o : Int) :
    Calls Tryd.prog 20 #[.agg #[.slice a n c, .int .i64 B], .int .i64 o] wr fun e w' => ∃ a' n' c' B' ok, e = .returned (.tuple #[.agg #[.slice a' n' c', .int .i64 B'], .bool ok]) ∧ LgF w b G N a n c B L M w' ∧ NewG w DrB a' n' c' B' ok w' := by
  obtain ⟨L', B', ok, ha⟩ := drop_is L B o
  refine (specDrop_any a L n c B o wr h.len (by have := hd.many; have := h.len; omega) h.sl hd.sz L' B' ok ha).mono ?_
  rintro e w' ⟨a', c', rfl, M', hM, ho, hb⟩
  refine ⟨a', _, c', B', ok, rfl, h.below hb, fun e => ?_⟩
  subst e
  exact ⟨L', M', hM, rfl, ho.base (by have := h.lt; have := h.hG; omega), dr_drop hd ha⟩
open Classical in
theorem end_lg {w wr : World} {b G N n c : Nat} {a : Option Addr} {B : Int} {L : List Pc} {M : List PV} (h : LgF w b G N a n c B L M wr) (hd : DrB L B) :
    Calls Tryd.prog 9 #[.agg #[.slice a n c, .int .i64 B]] wr fun e w' => ∃ (x : Int) (ok : Bool), e = .returned (.tuple #[.int .i64 x, .bool ok]) ∧ 0 ≤ x ∧ x ≤ 1360 ∧ LgF w b G N a n c B L M w' := by
  obtain ⟨r, ok, hr, hr0, hx⟩ : ∃ (r : Int) (ok : Bool), endRes L B = (if ok then some r else none) ∧ (ok = false → r = 0) ∧ 0 ≤ r ∧ r ≤ 1360 := by
    unfold endRes
    by_cases hg : GoodG L B
    · have := dr_end hd hg
      exact ⟨endg L, true, by rw [if_pos hg]; rfl, (fun e => by cases e), this.1, this.2⟩
    · exact ⟨0, false, by rw [if_neg hg]; rfl, fun _ => rfl, by omega, by omega⟩
  refine (specEndOf_any a L n c B wr h.len (by have := hd.many; have := h.len; omega) h.sl hd.sz r ok hr hr0).mono ?_
  rintro e w' ⟨rfl, hb⟩
  exact ⟨r, ok, rfl, hx.1, hx.2, h.below hb⟩
end Go.Proofs.YtbcljhafdpnjbabDoor.L6

namespace Go.Proofs.YtbcljhafdpnjbabDoor.L6
open Go.RowKit L1
set_option linter.unusedVariables false

/-- From and Bytes of a piece written over. -/
theorem OwC.setF {w : World} {base g n cap : Nat} {M : List PV} (h : OwC w base (.slice (some ⟨g, 0, none⟩) n cap) n M) (k : Nat) (hk : k < n) (f : Int) :
    OwC (w.setCell ⟨g, k * 3, none⟩ (.int .i64 f)) base (.slice (some ⟨g, 0, none⟩) n cap) n (M.set k (⟨f, (M.getD k eV).1.s, (M.getD k eV).1.x⟩, (M.getD k eV).2)) ∧ w.grownBy (w.setCell ⟨g, k * 3, none⟩ (.int .i64 f)) (some g) := by
  have h1 := h.row.stored (k * 3) (.int .i64 f)
  have hl := h.len
  have hfl : (flatC M).length = n * 3 := by rw [flatC_len, hl]
  have keep : ∀ {c m : Nat} {u : Value} {ys : List Value}, w.ownsRow base 3 c u m ys → (w.setCell ⟨g, k * 3, none⟩ (.int .i64 f)).ownsRow base 3 c u m ys := fun hu =>
    own_keptC hu h1.2 (fun b hb e => by
      simp at e
      subst e
      exact own_two h.row hu int_piece g rfl hb)
  refine ⟨⟨by simpa using hl, ?_, fun i hi => ?_, fun i j hij hj => ?_⟩, h1.2⟩
  · obtain ⟨f1, f2, f3⟩ := flatC_get M k (by omega)
    rw [flatC_set]
    unfold L6.setC
    simp only
    have e2 : ((flatC M).set (k * 3) (.int .i64 f)).set (k * 3 + 1) (.string (M.getD k eV).1.s) = (flatC M).set (k * 3) (.int .i64 f) := by
      apply List.ext_getElem?
      intro j
      by_cases e : j = k * 3 + 1
      · subst e
        rw [List.getElem?_set_self (by simp; omega), List.getElem?_set_ne (by omega), f2]
      · rw [List.getElem?_set_ne (by omega)]
    have e3 : ((flatC M).set (k * 3) (.int .i64 f)).set (k * 3 + 2) (M.getD k eV).2 = (flatC M).set (k * 3) (.int .i64 f) := by
      apply List.ext_getElem?
      intro j
      by_cases e : j = k * 3 + 2
      · subst e
        rw [List.getElem?_set_self (by simp; omega), List.getElem?_set_ne (by omega), f3]
      · rw [List.getElem?_set_ne (by omega)]
    rw [e2, e3]
    exact h1.1
  · by_cases e : i = k
    · subst e
      rw [getD_set_self M i _ (by omega)]
      exact keep (h.idx i hi)
    · rw [getD_set_ne M k i _ e]
      exact keep (h.idx i hi)
  · intro b
    have q : ∀ t, t < n → ((M.set k (⟨f, (M.getD k eV).1.s, (M.getD k eV).1.x⟩, (M.getD k eV).2)).getD t eV).2 = (M.getD t eV).2 := fun t ht => by
      by_cases e : t = k
      · subst e; rw [getD_set_self M t _ (by omega)]
      · rw [getD_set_ne M k t _ e]
    rw [q i (by omega), q j hj]
    exact h.apart i j hij hj b
theorem OwC.setS {w : World} {base g n cap : Nat} {M : List PV} (h : OwC w base (.slice (some ⟨g, 0, none⟩) n cap) n M) (k : Nat) (hk : k < n) (s : ByteArray) :
    OwC (w.setCell ⟨g, k * 3 + 1, none⟩ (.string s)) base (.slice (some ⟨g, 0, none⟩) n cap) n (M.set k (⟨(M.getD k eV).1.f, s, (M.getD k eV).1.x⟩, (M.getD k eV).2)) ∧ w.grownBy (w.setCell ⟨g, k * 3 + 1, none⟩ (.string s)) (some g) := by
  have h1 := h.row.stored (k * 3 + 1) (.string s)
  have hl := h.len
  have hfl : (flatC M).length = n * 3 := by rw [flatC_len, hl]
  have keep : ∀ {c m : Nat} {u : Value} {ys : List Value}, w.ownsRow base 3 c u m ys → (w.setCell ⟨g, k * 3 + 1, none⟩ (.string s)).ownsRow base 3 c u m ys := fun hu =>
    own_keptC hu h1.2 (fun b hb e => by
      simp at e
      subst e
      exact own_two h.row hu int_piece g rfl hb)
  refine ⟨⟨by simpa using hl, ?_, fun i hi => ?_, fun i j hij hj => ?_⟩, h1.2⟩
  · obtain ⟨f1, f2, f3⟩ := flatC_get M k (by omega)
    rw [flatC_set]
    unfold L6.setC
    simp only
    have e1 : (flatC M).set (k * 3) (.int .i64 (M.getD k eV).1.f) = flatC M := by
      apply List.ext_getElem?
      intro j
      by_cases e : j = k * 3
      · subst e
        rw [List.getElem?_set_self (by omega), f1]
      · rw [List.getElem?_set_ne (by omega)]
    have e3 : ((flatC M).set (k * 3 + 1) (.string s)).set (k * 3 + 2) (M.getD k eV).2 = (flatC M).set (k * 3 + 1) (.string s) := by
      apply List.ext_getElem?
      intro j
      by_cases e : j = k * 3 + 2
      · subst e
        rw [List.getElem?_set_self (by simp; omega), List.getElem?_set_ne (by omega), f3]
      · rw [List.getElem?_set_ne (by omega)]
    rw [e1, e3]
    exact h1.1
  · by_cases e : i = k
    · subst e
      rw [getD_set_self M i _ (by omega)]
      exact keep (h.idx i hi)
    · rw [getD_set_ne M k i _ e]
      exact keep (h.idx i hi)
  · intro b
    have q : ∀ t, t < n → ((M.set k (⟨(M.getD k eV).1.f, s, (M.getD k eV).1.x⟩, (M.getD k eV).2)).getD t eV).2 = (M.getD t eV).2 := fun t ht => by
      by_cases e : t = k
      · subst e; rw [getD_set_self M t _ (by omega)]
      · rw [getD_set_ne M k t _ e]
    rw [q i (by omega), q j hj]
    exact h.apart i j hij hj b
end Go.Proofs.YtbcljhafdpnjbabDoor.L6

namespace Go.Proofs.YtbcljhafdpnjbabDoor.L6
open Go.RowKit L1
set_option linter.unusedVariables false

/-- A drawn log: as DrB, but for what is spoilt. -/
structure DrC (L : List Pc) (B : Int) : Prop where
  one : 1 ≤ L.length
  many : L.length ≤ 20
  ps : ∀ i, i < L.length → (gc L i).s.size ≤ 62 ∧ (gc L i).x.length ≤ 60 ∧ 0 ≤ (gc L i).f ∧ (gc L i).f ≤ 1301
  b0 : -2 ≤ B
  b1 : B ≤ 1410
theorem DrB.c {L : List Pc} {B : Int} (h : DrB L B) : DrC L B := ⟨h.one, h.many, fun i hi => by have := h.ps i hi; omega, by have := h.b0; omega, by have := h.b1; omega⟩
/-- What the cursor's log answers. -/
def DrL (w : World) (b N : Nat) (e : Ending) (w' : World) : Prop :=
  ∃ a n c B L M, e = .returned (.agg #[.slice a n c, .int .i64 B]) ∧ L6.pcs M = L ∧ L.length = n ∧ OwC w' w.heap.size (.slice a n c) n M ∧ DrC L B ∧ Cur w' b N ∧ w.grownBy w' (some b)
/-- The drawn log is loaded and handed back. -/
theorem LgF.out {w wr : World} {b G N n c : Nat} {a : Option Addr} {B : Int} {L : List Pc} {M : List PV} (h : LgF w b G N a n c B L M wr) (hd : DrC L B) : DrL w b N (.returned (.agg #[.slice a n c, .int .i64 B])) ((wr.setCell ⟨w.heap.size, 0, none⟩ (.slice a n c)).setCell ⟨w.heap.size, 1, none⟩ (.int .i64 B)) := by
  have h1 := h.hb
  have blk : ∀ q, q ≠ w.heap.size → ((wr.setCell ⟨w.heap.size, 0, none⟩ (.slice a n c)).setCell ⟨w.heap.size, 1, none⟩ (.int .i64 B)).heap[q]? = wr.heap[q]? := fun q hq => (Below.heap_setCell _ _ _ _ (show q ≠ w.heap.size from hq)).trans (Below.heap_setCell _ _ _ _ (show q ≠ w.heap.size from hq))
  have z : w.heap.size < w.heap.size + 1 := Nat.lt_succ_self _
  exact ⟨a, n, c, B, L, M, rfl, h.pcs, h.len, ((h.own.setC ⟨w.heap.size, 0, none⟩ _ z).setC ⟨w.heap.size, 1, none⟩ _ z).base (by omega), hd, h.cur.kept (fun k hk => blk k (by omega)), ⟨h.gr.os, h.gr.tape, h.gr.output, by simp; exact h.gr.size, fun q hq hn => (blk q (by omega)).trans (h.gr.block q hq hn)⟩⟩

theorem LgF.setB {w wr : World} {b G N n c : Nat} {a : Option Addr} {B : Int} {L : List Pc} {M : List PV} (h : LgF w b G N a n c B L M wr) (B' : Int) : LgF w b G N a n c B' L M (wr.setCell ⟨G, 1, none⟩ (.int .i64 B')) := by
  have h1 := h.hb
  have h2 := h.hG
  have b1 := heap_setCell_same wr G 1 _ _ (.int .i64 B') h.box
  have blk : ∀ q, q ≠ G → (wr.setCell ⟨G, 1, none⟩ (.int .i64 B')).heap[q]? = wr.heap[q]? := fun q hq => Below.heap_setCell _ _ _ _ (show q ≠ G from hq)
  exact ⟨h1, h2, h.cur.kept (fun k hk => blk k (by omega)), ⟨h.gr.os, h.gr.tape, h.gr.output, by simp; exact h.gr.size, fun q hq hn => (blk q (by omega)).trans (h.gr.block q hq hn)⟩, (blk _ (by omega)).trans h.res, b1.trans rfl, h.pcs, h.len, h.own.setBC h.box⟩
theorem LgF.rowG {w wr : World} {b G N n c : Nat} {a : Option Addr} {B : Int} {L : List Pc} {M : List PV} (h : LgF w b G N a n c B L M wr) (h1 : 1 ≤ n) : ∃ g, a = some ⟨g, 0, none⟩ ∧ g ≠ G ∧ w.heap.size < g ∧ n ≤ c := by
  obtain ⟨g, rfl, hc⟩ := own_capC h.own.row h1
  have hb := (own_ltC h.own.row g rfl).1
  refine ⟨g, rfl, fun e => ?_, by omega, hc⟩
  rcases h.own.row.2 with h0 | ⟨g', cp, cu, hv, hbg, hg, r⟩
  · simp at h0
  · cases hv
    rw [e, h.box] at hg
    simp at hg
theorem LgF.ofOwn {w wr wx : World} {b G N n c g : Nat} {B : Int} {L L' : List Pc} {M M' : List PV} (h : LgF w b G N (some ⟨g, 0, none⟩) n c B L M wr) (hgG : g ≠ G) (hgw : w.heap.size < g) (ho : OwC wx (w.heap.size + 1) (.slice (some ⟨g, 0, none⟩) n c) n M') (hg : wr.grownBy wx (some g)) (hp : L6.pcs M' = L') (hl : L'.length = n) : LgF w b G N (some ⟨g, 0, none⟩) n c B L' M' wx := by
  have h1 := h.hb
  have h2 := h.hG
  have h3 := h.lt
  have hcl := h.cur.lt
  refine ⟨h1, h2, h.cur.kept (fun k hk => hg.block k (by omega) (by simp; omega)), ⟨hg.os.trans h.gr.os, hg.tape.trans h.gr.tape, hg.output.trans h.gr.output, Nat.le_trans h.gr.size hg.size, fun q hq hn => (hg.block q (by have := h.gr.size; omega) (by simp; omega)).trans (h.gr.block q hq hn)⟩, (hg.block _ (by omega) (by simp; omega)).trans h.res, (hg.block _ h3 (by simp; omega)).trans h.box, hp, hl, ho⟩
theorem pcs_set (M : List PV) (k : Nat) (p : Pc) (v : Value) : L6.pcs (M.set k (p, v)) = (L6.pcs M).set k p := by
  show List.map _ _ = _
  rw [List.map_set]
theorem gc_set (L : List Pc) (k i : Nat) (p : Pc) (hi : i < L.length) : gc (L.set k p) i = if i = k then p else gc L i := by
  by_cases e : i = k
  · subst e
    rw [if_pos rfl]
    simp [gc, List.getD, hi]
  · rw [if_neg e]
    simp [gc, List.getD, List.getElem?_set_ne (Ne.symm e)]
theorem DrB.set {L : List Pc} {B : Int} (h : DrB L B) (k : Nat) (hk : k < L.length) (p : Pc) (hs : p.s.size ≤ (gc L k).s.size + 2) (hx : p.x = (gc L k).x) (h0 : (gc L k).f ≤ p.f) (h1 : p.f ≤ (gc L k).f + 1) : DrC (L.set k p) B := by
  refine ⟨by simpa using h.one, by simpa using h.many, fun i hi => ?_, by have := h.b0; omega, by have := h.b1; omega⟩
  have hi' : i < L.length := by simpa using hi
  rw [gc_set L k i p hi']
  have hkk := h.ps k hk
  have hii := h.ps i hi'
  split
  · rw [hx]
    omega
  · omega
theorem pick_lg3 {w wr : World} {b G N n c : Nat} {a : Option Addr} {B m : Int} {L : List Pc} {M : List PV} (h : LgF w b G N a n c B L M wr) (hN : N ≤ 1000000000) (h1 : 1 ≤ m) (h2 : m ≤ 1000000000000) :
    Calls Tryd.prog 53 #[.pointer (some ⟨b, 0, none⟩), .int .i64 m] wr fun e w' => ∃ y : Int, e = .returned (.int .i64 y) ∧ 0 ≤ y ∧ y < m ∧ Hid (LgF w b G (N + 2) a n c B L M w') := by
  refine (pick_any b N m wr h.cur hN (by omega) h2).mono ?_
  rintro e w' ⟨y, rfl, h0, _, hy, hc, hg⟩
  exact ⟨y, rfl, h0, hy h1, h.step hc hg⟩

theorem LgF.cells2 {w wr : World} {b G N n c : Nat} {a : Option Addr} {B : Int} {L : List Pc} {M : List PV} (h : LgF w b G N a n c B L M wr) : wr.cell? ⟨G, 0, none⟩ = some (.slice a n c) ∧ wr.cell? ⟨G, 1, none⟩ = some (.int .i64 B) := ⟨h.cells.1, h.cells.2.1⟩
theorem NewG.alloc {w w3 : World} {P : List Pc → Int → Prop} {a : Option Addr} {n c : Nat} {B : Int} {ok : Bool} (h : NewG w P a n c B ok w3) (o : Obj) : NewG w P a n c B ok (w3.alloc o) := fun e => by
  obtain ⟨L, M, h1, h2, h3, h4⟩ := h e
  exact ⟨L, M, h1, h2, h3.below ((Below.refl _ _).alloc (Nat.le_refl _) _), h4⟩
/-- A box beside is written into. -/
theorem leafG {w w3 : World} {b G N n c X : Nat} {a a3 : Option Addr} {n3 c3 : Nat} {B B3 : Int} {L : List Pc} {M : List PV} {P : List Pc → Int → Prop} {ok : Bool} {u0 u1 s0 s1 : Value} (h : LgF w b G N a n c B L M w3) (hn : NewG w P a3 n3 c3 B3 ok w3) (hX : w3.heap[X]? = some (.cells #[u0, u1] 25 (0, 0))) (hXG : X ≠ G) (hXw : w.heap.size < X) :
    ((w3.setCell ⟨X, 0, none⟩ s0).setCell ⟨X, 1, none⟩ s1).heap[X]? = some (.cells #[s0, s1] 25 (0, 0)) ∧ LgF w b G N a n c B L M ((w3.setCell ⟨X, 0, none⟩ s0).setCell ⟨X, 1, none⟩ s1) ∧ NewG w P a3 n3 c3 B3 ok ((w3.setCell ⟨X, 0, none⟩ s0).setCell ⟨X, 1, none⟩ s1) := by
  have h1 := h.hb
  have h2 := h.hG
  have b1 := heap_setCell_same w3 X 0 _ _ s0 hX
  have b2 := heap_setCell_same _ X 1 _ _ s1 b1
  have blk : ∀ q, q ≠ X → ((w3.setCell ⟨X, 0, none⟩ s0).setCell ⟨X, 1, none⟩ s1).heap[q]? = w3.heap[q]? := fun q hq => (Below.heap_setCell _ _ _ _ (show q ≠ X from hq)).trans (Below.heap_setCell _ _ _ _ (show q ≠ X from hq))
  refine ⟨b2.trans rfl, ⟨h1, h2, h.cur.kept (fun k hk => blk k (by omega)), ⟨h.gr.os, h.gr.tape, h.gr.output, by simp; exact h.gr.size, fun q hq hn => (blk q (by omega)).trans (h.gr.block q hq hn)⟩, (blk _ (by omega)).trans h.res, (blk _ (Ne.symm hXG)).trans h.box, h.pcs, h.len, (h.own.setBC hX).setBC b1⟩, fun e => ?_⟩
  obtain ⟨L, M, k1, k2, k3, k4⟩ := hn e
  exact ⟨L, M, k1, k2, (k3.setBC hX).setBC b1, k4⟩
theorem record_lg2 {w wr : World} {b G N n c : Nat} {a : Option Addr} {B : Int} {L : List Pc} {M : List PV} (h : LgF w b G N a n c B L M wr) (hN : N ≤ 1000000000) :
    Calls Tryd.prog 32 #[.pointer (some ⟨b, 0, none⟩)] wr fun e w' => ∃ r : ByteArray, e = .returned (.string r) ∧ Hid (r.size ≤ 21 ∧ LgF w b G (N + 2) a n c B L M w') ∧ Hid (∀ X, X < wr.heap.size → X ≠ b → w'.heap[X]? = wr.heap[X]?) ∧ Hid (wr.heap.size ≤ w'.heap.size) := by
  refine (record_any b N wr h.cur hN).mono ?_
  rintro e w' ⟨r, rfl, hr, hc, hg⟩
  exact ⟨r, rfl, ⟨hr, h.step hc hg⟩, fun X hX hne => hg.block X hX (by simpa using hne), hg.size⟩
theorem append_lg2 {w wr : World} {b G N n c : Nat} {a : Option Addr} {B : Int} {L : List Pc} {M : List PV} (h : LgF w b G N a n c B L M wr) (hd : DrB L B) (h0 : (gc L 0).f = 0) (r : ByteArray) (hr : r.size ≤ 21) :
    Calls Tryd.prog 7 #[.agg #[.slice a n c, .int .i64 B], .string r] wr fun e w' => ∃ a' n' c' B' ok, e = .returned (.tuple #[.agg #[.slice a' n' c', .int .i64 B'], .bool ok]) ∧ Hid (LgF w b G N a n c B L M w') ∧ Hid (NewG w (fun L B => DrB L B ∧ (gc L 0).f = 0) a' n' c' B' ok w') ∧ Hid (∀ X, X < wr.heap.size → w'.heap[X]? = wr.heap[X]?) := by
  obtain ⟨L', B', ok, ha⟩ := app_is L B r
  refine (specAppend_any a L n c B r wr h.len (by have := hd.many; have := h.len; omega) h.sl hd.sz (by omega) L' B' ok ha).mono ?_
  rintro e w' ⟨a', c', rfl, M', hM, ho, hb⟩
  refine ⟨a', _, c', B', ok, rfl, h.below hb, fun e => ?_, fun X hX => hb.block X hX⟩
  subst e
  obtain ⟨k1, k2, k3⟩ := dr_app hd h0 ha
  exact ⟨L', M', hM, rfl, ho.base (by have := h.lt; have := h.hG; omega), k1, k2⟩
theorem pick_lg2 {w wr : World} {b G N n c : Nat} {a : Option Addr} {B m : Int} {L : List Pc} {M : List PV} (h : LgF w b G N a n c B L M wr) (hN : N ≤ 1000000000) (h1 : -1000000000000 ≤ m) (h2 : m ≤ 1000000000000) :
    Calls Tryd.prog 53 #[.pointer (some ⟨b, 0, none⟩), .int .i64 m] wr fun e w' => ∃ y : Int, e = .returned (.int .i64 y) ∧ Hid (True ∧ LgF w b G (N + 2) a n c B L M w') ∧ Hid (∀ X, X < wr.heap.size → X ≠ b → w'.heap[X]? = wr.heap[X]?) ∧ Hid (wr.heap.size ≤ w'.heap.size) := by
  refine (pick_any b N m wr h.cur hN h1 h2).mono ?_
  rintro e w' ⟨y, rfl, _, _, _, hc, hg⟩
  exact ⟨y, rfl, ⟨trivial, h.step hc hg⟩, fun X hX hne => hg.block X hX (by simpa using hne), hg.size⟩
theorem drop_lg2 {w wr : World} {b G N n c : Nat} {a : Option Addr} {B : Int} {L : List Pc} {M : List PV} (h : LgF w b G N a n c B L M wr) (hd : DrB L B) (o : Int) :
    Calls Tryd.prog 20 #[.agg #[.slice a n c, .int .i64 B], .int .i64 o] wr fun e w' => ∃ a' n' c' B' ok, e = .returned (.tuple #[.agg #[.slice a' n' c', .int .i64 B'], .bool ok]) ∧ Hid (LgF w b G N a n c B L M w') ∧ Hid (NewG w DrB a' n' c' B' ok w') ∧ Hid (∀ X, X < wr.heap.size → w'.heap[X]? = wr.heap[X]?) := by
  obtain ⟨L', B', ok, ha⟩ := drop_is L B o
  refine (specDrop_any a L n c B o wr h.len (by have := hd.many; have := h.len; omega) h.sl hd.sz L' B' ok ha).mono ?_
  rintro e w' ⟨a', c', rfl, M', hM, ho, hb⟩
  refine ⟨a', _, c', B', ok, rfl, h.below hb, fun e => ?_, fun X hX => hb.block X hX⟩
  subst e
  exact ⟨L', M', hM, rfl, ho.base (by have := h.lt; have := h.hG; omega), dr_drop hd ha⟩

set_option maxRecDepth 100000 in
set_option maxHeartbeats 1500000 in
theorem log_any (b N : Nat) (w : World) (h : Cur w b N) (hN : N ≤ 1000000) :
    Calls Tryd.prog 31 #[.pointer (some ⟨b, 0, none⟩)] w (DrL w b (N + 200)) := by
  have hbw := h.lt
  have HC := hide h
  clear h
  go_enter Tryd.func31, Tryd.ntmps31
  go_wp2_with fail
  refine (specNewLog_any _).mono ?_
  rintro e w1 ⟨a1, c1, M1, rfl, hM1, ho1, hb1⟩
  have hz1 := hb1.size
  simp only [World.size_alloc] at hz1 ho1
  have F1 : Hid (LgF w b w1.heap.size N a1 1 c1 0 [eC] M1 (w1.alloc (.cells #[.slice a1 1 c1, .int .i64 0] 25 (0, 0)))) := by
    have hal := (Below.refl w1.heap.size w1).alloc (Nat.le_refl _) (.cells #[.slice a1 1 c1, .int .i64 0] 25 (0, 0))
    have hbw1 : Below w.heap.size w w1 := ((Below.refl w.heap.size w).alloc (Nat.le_refl _) (.cells #[.slice none 0 0, .int .i64 0] 25 (0, 0))).trans (hb1.mono (by simp))
    have hb2 := hbw1.trans (hal.mono (by omega))
    exact ⟨hbw, by omega, HC.out.below hb2, below_grown hb2, (hal.block _ (by omega)).trans ((hb1.block _ (by simp)).trans (blk_new _ _)), blk_new _ _, hM1, rfl, ho1.below hal⟩
  obtain ⟨G, hG⟩ : ∃ G, w1.heap.size = G := ⟨_, rfl⟩
  generalize hW : w1.alloc (.cells #[.slice a1 1 c1, .int .i64 0] 25 (0, 0)) = W at F1
  rw [hG] at F1
  have HW := hide hW
  have HGG := hide hG
  clear hb1 ho1 hM1 HC hW
  go_wp2_with (first | rw [HW.out] | fail)
  clear HW
  refine (pick_any b N 12 _ F1.out.cur (by omega) (by omega) (by omega)).mono ?_
  rintro e w2 ⟨x2, rfl, h20, _, h21, hc2, hg2⟩
  have h21' := h21 (by omega)
  have F2 := hide (F1.out.step hc2 hg2)
  clear hc2 hg2 h21 F1
  go_wp2_with fail
  refine (one_any b _ 20 _ F2.out.cur (by omega) (by omega) (by omega)).mono ?_
  rintro e w3 ⟨t3, rfl, hc3, hg3⟩
  have F3 := hide (F2.out.step hc3 hg3)
  clear hc3 hg3 F2
  go_upto_if 15 with fail
  go_cut [4] (fun nv wx => ∃ n : Nat, nv = .int .i64 n ∧ n ≤ 61 ∧ LgF w b G (N + 6) a1 1 c1 0 [eC] M1 wx)
  case first =>
    cases t3 with
    | true =>
      go_wp2_with fail
      refine (pick_any b _ 4 _ F3.out.cur (by omega) (by omega) (by omega)).mono ?_
      rintro e w4 ⟨x4, rfl, h40, _, h41, hc4, hg4⟩
      have h41' := h41 (by omega)
      obtain ⟨k4, rfl⟩ : ∃ k : Nat, x4 = (k : Int) := ⟨x4.toNat, by omega⟩
      have F4 := hide (F3.out.step hc4 hg4)
      clear hc4 hg4 h41
      go_wp2_with fail
      go_meet
      exact ⟨58 + k4, by simp, by omega, F4.out⟩
    | false =>
      obtain ⟨k2, rfl⟩ : ∃ k : Nat, x2 = (k : Int) := ⟨x2.toNat, by omega⟩
      go_wp2_with fail
      go_meet
      exact ⟨k2, rfl, by omega, F3.out.mono (by omega)⟩
  case rest =>
    obtain ⟨n0, rfl, hn0, hF⟩ := hcut
    have F4 := hide hF
    clear hF F3
    go_wp2
    go_loopw [4] (fun nv wr => ∃ (j : Nat) (a : Option Addr) (n c : Nat) (B : Int) (L : List Pc) (M : List PV), nv = .int .i64 j ∧ j ≤ 61 ∧ DrB L B ∧ (gc L 0).f = 0 ∧ LgF w b G (N + 6 + 2 * (61 - j)) a n c B L M wr) (fun nv _ => (intOf nv).toNat)
    case atStart => exact ⟨n0, a1, 1, c1, 0, [eC], M1, rfl, hn0, dr_new, rfl, F4.out.mono (by omega)⟩
    case round =>
      obtain ⟨j, a, n, c, B, L, M, rfl, hj, hd, h0, hF⟩ := hrel
      have F := hide hF
      have HD := hide hd
      have H0 := hide h0
      clear hF hd h0 F4
      cases j with
      | succ j =>
        have hjp : (0 : Int) < (j : Int) + 1 := by omega
        have CR := hide (fun wx (h : LgF w b G (N + 6 + 2 * (61 - (j + 1))) a n c B L M wx) => (record_lg2 h (by omega)))
        have CA := hide (fun wx r (h : Hid (r.size ≤ 21 ∧ LgF w b G (N + 6 + 2 * (61 - (j + 1)) + 2) a n c B L M wx)) => append_lg2 h.out.2 HD.out H0.out r h.out.1)
        obtain ⟨o0, o1, _, _⟩ := F.out.cells
        go_upto_region 7 with fail
        go_cut [5, 6] (fun p okv wx => ∃ (X : Nat) (a3 : Option Addr) (n3 c3 : Nat) (B3 : Int) (ok : Bool), p = .pointer (some ⟨X, 0, none⟩) ∧ okv = .bool ok ∧ wx.heap[X]? = some (.cells #[.slice a3 n3 c3, .int .i64 B3] 25 (0, 0)) ∧ LgF w b G (N + 6 + 2 * (61 - (j + 1)) + 2) a n c B L M wx ∧ NewG w (fun L B => DrB L B ∧ (gc L 0).f = 0) a3 n3 c3 B3 ok wx)
        case first =>
          refine wp_region_held_drew (S := (fun wx => wx.cell? ⟨G, 0, none⟩ = some (.slice a n c) ∧ wx.cell? ⟨G, 1, none⟩ = some (.int .i64 B))) (by kernel_rfl) F.out.cells2 (fun hHeld => ?_)
          refine wpAnyH_take (i := 0) (v := ?va1_) rfl (by kernel_rfl) (by kernel_rfl) (by kernel_rfl) (fun _ _ _ h => h) (Or.inl ⟨by rfl, ?ya1_⟩) (by assumption) ?ra1_
          case ya1_ => (intro w hSw; (try dsimp only at hSw); go_simp; try (with_reducible rfl))
          simp only [List.getElem_toArray, List.getElem_cons_zero, Act.put, List.setIfInBounds_toArray, List.set_cons_zero, List.set_cons_succ]
          refine wpAnyH_take (i := 1) (v := ?va2_) rfl (by kernel_rfl) (by kernel_rfl) (by kernel_rfl) (fun _ _ _ h => h) (Or.inl ⟨by rfl, ?ya2_⟩) (by assumption) ?ra2_
          case ya2_ => (intro w hSw; (try dsimp only at hSw); go_simp; try (with_reducible rfl))
          simp only [List.getElem_toArray, List.getElem_cons_succ, List.getElem_cons_zero, Act.put, List.setIfInBounds_toArray, List.set_cons_zero, List.set_cons_succ]
          refine wpAnyH_ready (rs := [2, 7]) (by kernel_rfl) (by simp) ?_
          refine AllReadyH.cons rfl (fun K hK => ?_) (AllReadyH.cons rfl (fun K hK => ?_) AllReadyH.nil)
          · skip
            simp only [List.getElem_toArray, List.getElem_cons_succ, List.getElem_cons_zero]
            go_simp
            go_at_call 32
            refine (CR.out _ F.out.drew).mono ?_
            rintro e w2 ⟨r, rfl, hr, k2, s2⟩
            dsimp only
            refine hK.out _ _ ?_ (fun hHeld => ?_)
            · exact hr.out.2.cells2
            clear hK K
            try simp only [Act.put, List.setIfInBounds_toArray, List.set_cons_zero, List.set_cons_succ]
            refine wpAnyH_ready (rs := [3, 7]) (by kernel_rfl) (by simp) ?_
            refine AllReadyH.cons rfl (fun K hK => ?_) (AllReadyH.cons rfl (fun K hK => ?_) AllReadyH.nil)
            · skip
              simp only [List.getElem_toArray, List.getElem_cons_succ, List.getElem_cons_zero]
              go_simp
              go_at_call 7
              refine (CA.out _ _ hr).mono ?_
              rintro e w3 ⟨a3, n3, c3, B3, ok, rfl, HF3, HN3, k3⟩
              dsimp only
              refine hK.out _ _ ?_ (fun hHeld => ?_)
              · exact HF3.out.cells2
              clear hK K
              try simp only [Act.put, List.setIfInBounds_toArray, List.set_cons_zero, List.set_cons_succ]
              refine wpAnyH_take (i := 4) (v := ?va3_) rfl (by kernel_rfl) (by kernel_rfl) (by kernel_rfl) (fun _ _ _ h => h) (Or.inl ⟨by rfl, ?ya3_⟩) (by assumption) ?ra3_
              case ya3_ => (intro w hSw; (try dsimp only at hSw); go_simp; try (with_reducible rfl))
              simp only [List.getElem_toArray, List.getElem_cons_succ, List.getElem_cons_zero, Act.put, List.setIfInBounds_toArray, List.set_cons_zero, List.set_cons_succ]
              refine wpAnyH_take (i := 5) (v := ?va4_) rfl (by kernel_rfl) (by kernel_rfl) (by kernel_rfl) (fun _ _ _ h => h) (Or.inl ⟨by rfl, ?ya4_⟩) (by assumption) ?ra4_
              case ya4_ => (intro w hSw; (try dsimp only at hSw); go_simp; try (with_reducible rfl))
              simp only [List.getElem_toArray, List.getElem_cons_succ, List.getElem_cons_zero, Act.put, List.setIfInBounds_toArray, List.set_cons_zero, List.set_cons_succ]
              refine wpAnyH_take (i := 6) (v := ?va5_) rfl (by kernel_rfl) (by kernel_rfl) (by kernel_rfl) (fun _ _ _ h => h) (Or.inl ⟨by rfl, ?ya5_⟩) (by assumption) ?ra5_
              case ya5_ => (intro w hSw; (try dsimp only at hSw); go_simp; try (with_reducible rfl))
              simp only [List.getElem_toArray, List.getElem_cons_succ, List.getElem_cons_zero, Act.put, List.setIfInBounds_toArray, List.set_cons_zero, List.set_cons_succ]
              refine wpAnyH_ready (rs := [7]) (by kernel_rfl) (by simp) ?_
              refine AllReadyH.cons rfl (fun K hK => ?_) AllReadyH.nil
              simp only [List.getElem_toArray, List.getElem_cons_succ, List.getElem_cons_zero]
              go_simp
              refine hK.out _ _ ?_ (fun hHeld => ?_)
              · exact (HF3.out.alloc _).cells2
              clear hK K
              try simp only [Act.put, List.setIfInBounds_toArray, List.set_cons_zero, List.set_cons_succ]
              have LF := And.intro (blk_new w3 (.cells #[.slice a3 n3 c3, .int .i64 B3] 25 (0, 0))) (And.intro (HF3.out.alloc (.cells #[.slice a3 n3 c3, .int .i64 B3] 25 (0, 0))) (HN3.out.alloc (.cells #[.slice a3 n3 c3, .int .i64 B3] 25 (0, 0))))
              obtain ⟨xx0, xx1, xx2, xx3⟩ := blkp (blk_new w3 (.cells #[.slice none 0 0, .int .i64 0] 25 (0, 0)))
              have HLF := hide LF
              clear LF
              refine wpAnyH_ready (rs := [8]) (by kernel_rfl) (by simp) ?_
              refine AllReadyH.cons rfl (fun K hK => ?_) AllReadyH.nil
              simp only [List.getElem_toArray, List.getElem_cons_succ, List.getElem_cons_zero]
              go_simp
              refine hK.out _ _ ?_ (fun hHeld => ?_)
              · exact HLF.out.2.1.cells2
              clear hK K
              try simp only [Act.put, List.setIfInBounds_toArray, List.set_cons_zero, List.set_cons_succ]
              refine wpAnyH_take (i := 9) (v := ?va6_) rfl (by kernel_rfl) (by kernel_rfl) (by kernel_rfl) (fun _ _ _ h => h) (Or.inl ⟨by rfl, ?ya6_⟩) (by assumption) ?ra6_
              case ya6_ => (intro w hSw; (try dsimp only at hSw); go_simp; try (with_reducible rfl))
              simp only [List.getElem_toArray, List.getElem_cons_succ, List.getElem_cons_zero, Act.put, List.setIfInBounds_toArray, List.set_cons_zero, List.set_cons_succ]
              refine wpAnyH_done (by kernel_rfl) ?_ _
              clear hHeld xx0 xx1 xx2 xx3
              go_wp2_with fail
              go_meet
              exact ⟨_, a3, n3, c3, B3, ok, rfl, rfl, HLF.out⟩
            · skip
              simp only [List.getElem_toArray, List.getElem_cons_succ, List.getElem_cons_zero]
              go_simp
              refine hK.out _ _ ?_ (fun hHeld => ?_)
              · exact (hr.out.2.alloc _).cells2
              clear hK K
              try simp only [Act.put, List.setIfInBounds_toArray, List.set_cons_zero, List.set_cons_succ]
              have hr' := hide (And.intro hr.out.1 (hr.out.2.alloc (.cells #[.slice none 0 0, .int .i64 0] 25 (0, 0))))
              refine wpAnyH_ready (rs := [3]) (by kernel_rfl) (by simp) ?_
              refine AllReadyH.cons rfl (fun K hK => ?_) AllReadyH.nil
              simp only [List.getElem_toArray, List.getElem_cons_succ, List.getElem_cons_zero]
              go_simp
              go_at_call 7
              refine (CA.out _ _ hr').mono ?_
              rintro e w3 ⟨a3, n3, c3, B3, ok, rfl, HF3, HN3, k3⟩
              dsimp only
              refine hK.out _ _ ?_ (fun hHeld => ?_)
              · exact HF3.out.cells2
              clear hK K
              try simp only [Act.put, List.setIfInBounds_toArray, List.set_cons_zero, List.set_cons_succ]
              have HX : w3.heap[w2.heap.size]? = some (.cells #[.slice none 0 0, .int .i64 0] 25 (0, 0)) := (k3.out _ (by simp)).trans (blk_new _ _)
              refine wpAnyH_take (i := 4) (v := ?va7_) rfl (by kernel_rfl) (by kernel_rfl) (by kernel_rfl) (fun _ _ _ h => h) (Or.inl ⟨by rfl, ?ya7_⟩) (by assumption) ?ra7_
              case ya7_ => (intro w hSw; (try dsimp only at hSw); go_simp; try (with_reducible rfl))
              simp only [List.getElem_toArray, List.getElem_cons_succ, List.getElem_cons_zero, Act.put, List.setIfInBounds_toArray, List.set_cons_zero, List.set_cons_succ]
              refine wpAnyH_take (i := 5) (v := ?va8_) rfl (by kernel_rfl) (by kernel_rfl) (by kernel_rfl) (fun _ _ _ h => h) (Or.inl ⟨by rfl, ?ya8_⟩) (by assumption) ?ra8_
              case ya8_ => (intro w hSw; (try dsimp only at hSw); go_simp; try (with_reducible rfl))
              simp only [List.getElem_toArray, List.getElem_cons_succ, List.getElem_cons_zero, Act.put, List.setIfInBounds_toArray, List.set_cons_zero, List.set_cons_succ]
              refine wpAnyH_take (i := 6) (v := ?va9_) rfl (by kernel_rfl) (by kernel_rfl) (by kernel_rfl) (fun _ _ _ h => h) (Or.inl ⟨by rfl, ?ya9_⟩) (by assumption) ?ra9_
              case ya9_ => (intro w hSw; (try dsimp only at hSw); go_simp; try (with_reducible rfl))
              simp only [List.getElem_toArray, List.getElem_cons_succ, List.getElem_cons_zero, Act.put, List.setIfInBounds_toArray, List.set_cons_zero, List.set_cons_succ]
              have LF := leafG (s0 := .slice a3 n3 c3) (s1 := .int .i64 B3) HF3.out HN3.out HX (by have := hr.out.2.lt; omega) (by have := hr.out.2.lt; have := F.out.hG; omega)
              obtain ⟨xx0, xx1, xx2, xx3⟩ := blkp HX
              have HLF := hide LF
              clear LF
              refine wpAnyH_ready (rs := [8]) (by kernel_rfl) (by simp) ?_
              refine AllReadyH.cons rfl (fun K hK => ?_) AllReadyH.nil
              simp only [List.getElem_toArray, List.getElem_cons_succ, List.getElem_cons_zero]
              go_simp
              refine hK.out _ _ ?_ (fun hHeld => ?_)
              · exact HLF.out.2.1.cells2
              clear hK K
              try simp only [Act.put, List.setIfInBounds_toArray, List.set_cons_zero, List.set_cons_succ]
              refine wpAnyH_take (i := 9) (v := ?va10_) rfl (by kernel_rfl) (by kernel_rfl) (by kernel_rfl) (fun _ _ _ h => h) (Or.inl ⟨by rfl, ?ya10_⟩) (by assumption) ?ra10_
              case ya10_ => (intro w hSw; (try dsimp only at hSw); go_simp; try (with_reducible rfl))
              simp only [List.getElem_toArray, List.getElem_cons_succ, List.getElem_cons_zero, Act.put, List.setIfInBounds_toArray, List.set_cons_zero, List.set_cons_succ]
              refine wpAnyH_done (by kernel_rfl) ?_ _
              clear hHeld xx0 xx1 xx2 xx3
              go_wp2_with fail
              go_meet
              exact ⟨_, a3, n3, c3, B3, ok, rfl, rfl, HLF.out⟩
          · skip
            simp only [List.getElem_toArray, List.getElem_cons_succ, List.getElem_cons_zero]
            go_simp
            refine hK.out _ _ ?_ (fun hHeld => ?_)
            · exact (F.out.drew.alloc _).cells2
            clear hK K
            try simp only [Act.put, List.setIfInBounds_toArray, List.set_cons_zero, List.set_cons_succ]
            refine wpAnyH_ready (rs := [2]) (by kernel_rfl) (by simp) ?_
            refine AllReadyH.cons rfl (fun K hK => ?_) AllReadyH.nil
            simp only [List.getElem_toArray, List.getElem_cons_succ, List.getElem_cons_zero]
            go_simp
            go_at_call 32
            refine (CR.out _ (F.out.drew.alloc _)).mono ?_
            rintro e w2 ⟨r, rfl, hr, k2, s2⟩
            dsimp only
            refine hK.out _ _ ?_ (fun hHeld => ?_)
            · exact hr.out.2.cells2
            clear hK K
            try simp only [Act.put, List.setIfInBounds_toArray, List.set_cons_zero, List.set_cons_succ]
            refine wpAnyH_ready (rs := [3]) (by kernel_rfl) (by simp) ?_
            refine AllReadyH.cons rfl (fun K hK => ?_) AllReadyH.nil
            simp only [List.getElem_toArray, List.getElem_cons_succ, List.getElem_cons_zero]
            go_simp
            go_at_call 7
            refine (CA.out _ _ hr).mono ?_
            rintro e w3 ⟨a3, n3, c3, B3, ok, rfl, HF3, HN3, k3⟩
            dsimp only
            refine hK.out _ _ ?_ (fun hHeld => ?_)
            · exact HF3.out.cells2
            clear hK K
            try simp only [Act.put, List.setIfInBounds_toArray, List.set_cons_zero, List.set_cons_succ]
            have HX : w3.heap[wr.heap.size]? = some (.cells #[.slice none 0 0, .int .i64 0] 25 (0, 0)) := (k3.out _ (Nat.lt_of_lt_of_le (by show wr.heap.size < (World.alloc _ _).heap.size; simp) (s2.out))).trans ((k2.out _ (by show wr.heap.size < (World.alloc _ _).heap.size; simp) (by have := F.out.lt; have := F.out.hG; have := F.out.hb; omega)).trans (by show (World.alloc _ _).heap[_]? = _; exact blk_new wr.drew _))
            refine wpAnyH_take (i := 4) (v := ?va11_) rfl (by kernel_rfl) (by kernel_rfl) (by kernel_rfl) (fun _ _ _ h => h) (Or.inl ⟨by rfl, ?ya11_⟩) (by assumption) ?ra11_
            case ya11_ => (intro w hSw; (try dsimp only at hSw); go_simp; try (with_reducible rfl))
            simp only [List.getElem_toArray, List.getElem_cons_succ, List.getElem_cons_zero, Act.put, List.setIfInBounds_toArray, List.set_cons_zero, List.set_cons_succ]
            refine wpAnyH_take (i := 5) (v := ?va12_) rfl (by kernel_rfl) (by kernel_rfl) (by kernel_rfl) (fun _ _ _ h => h) (Or.inl ⟨by rfl, ?ya12_⟩) (by assumption) ?ra12_
            case ya12_ => (intro w hSw; (try dsimp only at hSw); go_simp; try (with_reducible rfl))
            simp only [List.getElem_toArray, List.getElem_cons_succ, List.getElem_cons_zero, Act.put, List.setIfInBounds_toArray, List.set_cons_zero, List.set_cons_succ]
            refine wpAnyH_take (i := 6) (v := ?va13_) rfl (by kernel_rfl) (by kernel_rfl) (by kernel_rfl) (fun _ _ _ h => h) (Or.inl ⟨by rfl, ?ya13_⟩) (by assumption) ?ra13_
            case ya13_ => (intro w hSw; (try dsimp only at hSw); go_simp; try (with_reducible rfl))
            simp only [List.getElem_toArray, List.getElem_cons_succ, List.getElem_cons_zero, Act.put, List.setIfInBounds_toArray, List.set_cons_zero, List.set_cons_succ]
            have LF := leafG (s0 := .slice a3 n3 c3) (s1 := .int .i64 B3) HF3.out HN3.out HX (by have := F.out.lt; omega) (by have := F.out.lt; have := F.out.hG; omega)
            obtain ⟨xx0, xx1, xx2, xx3⟩ := blkp HX
            have HLF := hide LF
            clear LF
            refine wpAnyH_ready (rs := [8]) (by kernel_rfl) (by simp) ?_
            refine AllReadyH.cons rfl (fun K hK => ?_) AllReadyH.nil
            simp only [List.getElem_toArray, List.getElem_cons_succ, List.getElem_cons_zero]
            go_simp
            refine hK.out _ _ ?_ (fun hHeld => ?_)
            · exact HLF.out.2.1.cells2
            clear hK K
            try simp only [Act.put, List.setIfInBounds_toArray, List.set_cons_zero, List.set_cons_succ]
            refine wpAnyH_take (i := 9) (v := ?va14_) rfl (by kernel_rfl) (by kernel_rfl) (by kernel_rfl) (fun _ _ _ h => h) (Or.inl ⟨by rfl, ?ya14_⟩) (by assumption) ?ra14_
            case ya14_ => (intro w hSw; (try dsimp only at hSw); go_simp; try (with_reducible rfl))
            simp only [List.getElem_toArray, List.getElem_cons_succ, List.getElem_cons_zero, Act.put, List.setIfInBounds_toArray, List.set_cons_zero, List.set_cons_succ]
            refine wpAnyH_done (by kernel_rfl) ?_ _
            clear hHeld xx0 xx1 xx2 xx3
            go_wp2_with fail
            go_meet
            exact ⟨_, a3, n3, c3, B3, ok, rfl, rfl, HLF.out⟩
        case rest =>
          obtain ⟨X, a3, n3, c3, B3, ok, rfl, rfl, hX, hF3, hN3⟩ := hcut
          have G3 := hide hF3
          obtain ⟨g0, g1, g2, g3⟩ := G3.out.cells
          obtain ⟨x0, x1, _, _⟩ := blkp hX
          clear o0 o1 hF3 hX CR CA
          cases ok with
          | true =>
            obtain ⟨L3, M3, hp3, hl3, ho3, hd3⟩ := hN3 rfl
            have P3 := hide (G3.out.put (B' := B3) hp3 hl3 ho3)
            have HD3 := hide hd3
            clear hp3 hl3 ho3 hd3 hN3
            go_wp2
            go_roundw
            case rel => exact ⟨j, a3, n3, c3, B3, L3, M3, by simp, by omega, HD3.out.1, HD3.out.2, P3.out.mono (by omega)⟩
            case measure => simp [intOf]
          | false =>
            clear hN3
            go_wp2
            go_roundw
            case rel => exact ⟨j, a, n, c, B, L, M, by simp, by omega, HD.out, H0.out, G3.out.mono (by omega)⟩
            case measure => simp [intOf]
      | zero =>
        obtain ⟨o0, o1, _, _⟩ := F.out.cells
        go_wp2_with fail
        refine (end_lg F.out HD.out).mono ?_
        rintro e w4 ⟨x4, ok4, rfl, hx0, hx1, hF4⟩
        have F4 := hide (hF4.mono (show _ ≤ N + 130 by omega))
        clear hF4 F o0 o1
        go_upto_region 11 with fail
        go_cut [41] (fun t wx => ∃ tb : Bool, t = .bool tb ∧ LgF w b G (N + 132) a n c B L M wx)
        case first =>
          cases ok4 with
          | false =>
            go_wp2_with fail
            go_meet
            exact ⟨false, rfl, F4.out.mono (by omega)⟩
          | true =>
            go_wp2_with fail
            refine (one_any b _ 3 _ F4.out.cur (by omega) (by omega) (by omega)).mono ?_
            rintro e w5 ⟨t5, rfl, hc5, hg5⟩
            have F5 := hide (F4.out.step hc5 hg5)
            clear hc5 hg5
            go_wp2_with fail
            go_meet
            exact ⟨t5, rfl, F5.out⟩
        case rest =>
          obtain ⟨tb, rfl, hF5⟩ := hcut
          have F5 := hide hF5
          clear hF5 F4
          go_upto_if 41 with fail
          go_cut [0] (fun p wx => p = .pointer (some ⟨b, 0, none⟩) ∧ ∃ (a : Option Addr) (n c : Nat) (B : Int) (L : List Pc) (M : List PV), DrB L B ∧ LgF w b G (N + 134) a n c B L M wx)
          case first =>
            cases tb with
            | false =>
              go_wp2_with fail
              go_meet
              exact ⟨rfl, a, n, c, B, L, M, HD.out, F5.out.mono (by omega)⟩
            | true =>
              have CP := hide (fun wx (h : LgF w b G (N + 132) a n c B L M wx) => pick_lg2 (m := x4 + 1) h (by omega) (by omega) (by omega))
              have CD := hide (fun wx o (h : Hid (True ∧ LgF w b G (N + 134) a n c B L M wx)) => drop_lg2 h.out.2 HD.out o)
              have F := F5
              have hwx : IntKind.i64.wrap (x4 + 1) = x4 + 1 := wrap6 (by omega) (by omega)
              go_upto_region 12 with fail
              go_cut [9, 10] (fun p okv wx => ∃ (X : Nat) (a3 : Option Addr) (n3 c3 : Nat) (B3 : Int) (ok : Bool), p = .pointer (some ⟨X, 0, none⟩) ∧ okv = .bool ok ∧ wx.heap[X]? = some (.cells #[.slice a3 n3 c3, .int .i64 B3] 25 (0, 0)) ∧ LgF w b G (N + 134) a n c B L M wx ∧ NewG w DrB a3 n3 c3 B3 ok wx)
              case first =>
                refine wp_region_held_drew (S := (fun wx => wx.cell? ⟨G, 0, none⟩ = some (.slice a n c) ∧ wx.cell? ⟨G, 1, none⟩ = some (.int .i64 B))) (by kernel_rfl) F.out.cells2 (fun hHeld => ?_)
                refine wpAnyH_take (i := 0) (v := ?vb1_) rfl (by kernel_rfl) (by kernel_rfl) (by kernel_rfl) (fun _ _ _ h => h) (Or.inl ⟨by rfl, ?yb1_⟩) (by assumption) ?rb1_
                case yb1_ => (intro w hSw; (try dsimp only at hSw); go_simp; try (with_reducible rfl))
                simp only [List.getElem_toArray, List.getElem_cons_zero, Act.put, List.setIfInBounds_toArray, List.set_cons_zero, List.set_cons_succ]
                refine wpAnyH_take (i := 1) (v := ?vb2_) rfl (by kernel_rfl) (by kernel_rfl) (by kernel_rfl) (fun _ _ _ h => h) (Or.inl ⟨by rfl, ?yb2_⟩) (by assumption) ?rb2_
                case yb2_ => (intro w hSw; (try dsimp only at hSw); go_simp; try (with_reducible rfl))
                simp only [List.getElem_toArray, List.getElem_cons_succ, List.getElem_cons_zero, Act.put, List.setIfInBounds_toArray, List.set_cons_zero, List.set_cons_succ]
                refine wpAnyH_take (i := 2) (v := ?vb3_) rfl (by kernel_rfl) (by kernel_rfl) (by kernel_rfl) (fun _ _ _ h => h) (Or.inl ⟨by rfl, ?yb3_⟩) (by assumption) ?rb3_
                case yb3_ => (intro w hSw; (try dsimp only at hSw); go_simp; try (with_reducible rfl))
                simp only [List.getElem_toArray, List.getElem_cons_succ, List.getElem_cons_zero, Act.put, List.setIfInBounds_toArray, List.set_cons_zero, List.set_cons_succ]
                refine wpAnyH_take (i := 3) (v := ?vb4_) rfl (by kernel_rfl) (by kernel_rfl) (by kernel_rfl) (fun _ _ _ h => h) (Or.inl ⟨by rfl, ?yb4_⟩) (by assumption) ?rb4_
                case yb4_ => (intro w hSw; (try dsimp only at hSw); go_simp; try (with_reducible rfl))
                simp only [List.getElem_toArray, List.getElem_cons_succ, List.getElem_cons_zero, Act.put, List.setIfInBounds_toArray, List.set_cons_zero, List.set_cons_succ]
                refine wpAnyH_ready (rs := [4, 9]) (by kernel_rfl) (by simp) ?_
                refine AllReadyH.cons rfl (fun K hK => ?_) (AllReadyH.cons rfl (fun K hK => ?_) AllReadyH.nil)
                · skip
                  simp only [List.getElem_toArray, List.getElem_cons_succ, List.getElem_cons_zero]
                  go_simp
                  go_at_call 53
                  refine (CP.out _ F.out.drew).mono ?_
                  rintro e w2 ⟨r, rfl, hr, k2, s2⟩
                  dsimp only
                  refine hK.out _ _ ?_ (fun hHeld => ?_)
                  · exact hr.out.2.cells2
                  clear hK K
                  try simp only [Act.put, List.setIfInBounds_toArray, List.set_cons_zero, List.set_cons_succ]
                  refine wpAnyH_ready (rs := [5, 9]) (by kernel_rfl) (by simp) ?_
                  refine AllReadyH.cons rfl (fun K hK => ?_) (AllReadyH.cons rfl (fun K hK => ?_) AllReadyH.nil)
                  · skip
                    simp only [List.getElem_toArray, List.getElem_cons_succ, List.getElem_cons_zero]
                    go_simp
                    go_at_call 20
                    refine (CD.out _ _ hr).mono ?_
                    rintro e w3 ⟨a3, n3, c3, B3, ok, rfl, HF3, HN3, k3⟩
                    dsimp only
                    refine hK.out _ _ ?_ (fun hHeld => ?_)
                    · exact HF3.out.cells2
                    clear hK K
                    try simp only [Act.put, List.setIfInBounds_toArray, List.set_cons_zero, List.set_cons_succ]
                    refine wpAnyH_take (i := 6) (v := ?vb5_) rfl (by kernel_rfl) (by kernel_rfl) (by kernel_rfl) (fun _ _ _ h => h) (Or.inl ⟨by rfl, ?yb5_⟩) (by assumption) ?rb5_
                    case yb5_ => (intro w hSw; (try dsimp only at hSw); go_simp; try (with_reducible rfl))
                    simp only [List.getElem_toArray, List.getElem_cons_succ, List.getElem_cons_zero, Act.put, List.setIfInBounds_toArray, List.set_cons_zero, List.set_cons_succ]
                    refine wpAnyH_take (i := 7) (v := ?vb6_) rfl (by kernel_rfl) (by kernel_rfl) (by kernel_rfl) (fun _ _ _ h => h) (Or.inl ⟨by rfl, ?yb6_⟩) (by assumption) ?rb6_
                    case yb6_ => (intro w hSw; (try dsimp only at hSw); go_simp; try (with_reducible rfl))
                    simp only [List.getElem_toArray, List.getElem_cons_succ, List.getElem_cons_zero, Act.put, List.setIfInBounds_toArray, List.set_cons_zero, List.set_cons_succ]
                    refine wpAnyH_take (i := 8) (v := ?vb7_) rfl (by kernel_rfl) (by kernel_rfl) (by kernel_rfl) (fun _ _ _ h => h) (Or.inl ⟨by rfl, ?yb7_⟩) (by assumption) ?rb7_
                    case yb7_ => (intro w hSw; (try dsimp only at hSw); go_simp; try (with_reducible rfl))
                    simp only [List.getElem_toArray, List.getElem_cons_succ, List.getElem_cons_zero, Act.put, List.setIfInBounds_toArray, List.set_cons_zero, List.set_cons_succ]
                    refine wpAnyH_ready (rs := [9]) (by kernel_rfl) (by simp) ?_
                    refine AllReadyH.cons rfl (fun K hK => ?_) AllReadyH.nil
                    simp only [List.getElem_toArray, List.getElem_cons_succ, List.getElem_cons_zero]
                    go_simp
                    refine hK.out _ _ ?_ (fun hHeld => ?_)
                    · exact (HF3.out.alloc _).cells2
                    clear hK K
                    try simp only [Act.put, List.setIfInBounds_toArray, List.set_cons_zero, List.set_cons_succ]
                    have LF := And.intro (blk_new w3 (.cells #[.slice a3 n3 c3, .int .i64 B3] 25 (0, 0))) (And.intro (HF3.out.alloc (.cells #[.slice a3 n3 c3, .int .i64 B3] 25 (0, 0))) (HN3.out.alloc (.cells #[.slice a3 n3 c3, .int .i64 B3] 25 (0, 0))))
                    obtain ⟨xx0, xx1, xx2, xx3⟩ := blkp (blk_new w3 (.cells #[.slice none 0 0, .int .i64 0] 25 (0, 0)))
                    have HLF := hide LF
                    clear LF
                    refine wpAnyH_ready (rs := [10]) (by kernel_rfl) (by simp) ?_
                    refine AllReadyH.cons rfl (fun K hK => ?_) AllReadyH.nil
                    simp only [List.getElem_toArray, List.getElem_cons_succ, List.getElem_cons_zero]
                    go_simp
                    refine hK.out _ _ ?_ (fun hHeld => ?_)
                    · exact HLF.out.2.1.cells2
                    clear hK K
                    try simp only [Act.put, List.setIfInBounds_toArray, List.set_cons_zero, List.set_cons_succ]
                    refine wpAnyH_take (i := 11) (v := ?vb8_) rfl (by kernel_rfl) (by kernel_rfl) (by kernel_rfl) (fun _ _ _ h => h) (Or.inl ⟨by rfl, ?yb8_⟩) (by assumption) ?rb8_
                    case yb8_ => (intro w hSw; (try dsimp only at hSw); go_simp; try (with_reducible rfl))
                    simp only [List.getElem_toArray, List.getElem_cons_succ, List.getElem_cons_zero, Act.put, List.setIfInBounds_toArray, List.set_cons_zero, List.set_cons_succ]
                    refine wpAnyH_done (by kernel_rfl) ?_ _
                    clear hHeld xx0 xx1 xx2 xx3
                    go_wp2_with fail
                    go_meet
                    exact ⟨_, a3, n3, c3, B3, ok, rfl, rfl, HLF.out⟩
                  · skip
                    simp only [List.getElem_toArray, List.getElem_cons_succ, List.getElem_cons_zero]
                    go_simp
                    refine hK.out _ _ ?_ (fun hHeld => ?_)
                    · exact (hr.out.2.alloc _).cells2
                    clear hK K
                    try simp only [Act.put, List.setIfInBounds_toArray, List.set_cons_zero, List.set_cons_succ]
                    have hr' := hide (And.intro hr.out.1 (hr.out.2.alloc (.cells #[.slice none 0 0, .int .i64 0] 25 (0, 0))))
                    refine wpAnyH_ready (rs := [5]) (by kernel_rfl) (by simp) ?_
                    refine AllReadyH.cons rfl (fun K hK => ?_) AllReadyH.nil
                    simp only [List.getElem_toArray, List.getElem_cons_succ, List.getElem_cons_zero]
                    go_simp
                    go_at_call 20
                    refine (CD.out _ _ hr').mono ?_
                    rintro e w3 ⟨a3, n3, c3, B3, ok, rfl, HF3, HN3, k3⟩
                    dsimp only
                    refine hK.out _ _ ?_ (fun hHeld => ?_)
                    · exact HF3.out.cells2
                    clear hK K
                    try simp only [Act.put, List.setIfInBounds_toArray, List.set_cons_zero, List.set_cons_succ]
                    have HX : w3.heap[w2.heap.size]? = some (.cells #[.slice none 0 0, .int .i64 0] 25 (0, 0)) := (k3.out _ (by simp)).trans (blk_new _ _)
                    refine wpAnyH_take (i := 6) (v := ?vb9_) rfl (by kernel_rfl) (by kernel_rfl) (by kernel_rfl) (fun _ _ _ h => h) (Or.inl ⟨by rfl, ?yb9_⟩) (by assumption) ?rb9_
                    case yb9_ => (intro w hSw; (try dsimp only at hSw); go_simp; try (with_reducible rfl))
                    simp only [List.getElem_toArray, List.getElem_cons_succ, List.getElem_cons_zero, Act.put, List.setIfInBounds_toArray, List.set_cons_zero, List.set_cons_succ]
                    refine wpAnyH_take (i := 7) (v := ?vb10_) rfl (by kernel_rfl) (by kernel_rfl) (by kernel_rfl) (fun _ _ _ h => h) (Or.inl ⟨by rfl, ?yb10_⟩) (by assumption) ?rb10_
                    case yb10_ => (intro w hSw; (try dsimp only at hSw); go_simp; try (with_reducible rfl))
                    simp only [List.getElem_toArray, List.getElem_cons_succ, List.getElem_cons_zero, Act.put, List.setIfInBounds_toArray, List.set_cons_zero, List.set_cons_succ]
                    refine wpAnyH_take (i := 8) (v := ?vb11_) rfl (by kernel_rfl) (by kernel_rfl) (by kernel_rfl) (fun _ _ _ h => h) (Or.inl ⟨by rfl, ?yb11_⟩) (by assumption) ?rb11_
                    case yb11_ => (intro w hSw; (try dsimp only at hSw); go_simp; try (with_reducible rfl))
                    simp only [List.getElem_toArray, List.getElem_cons_succ, List.getElem_cons_zero, Act.put, List.setIfInBounds_toArray, List.set_cons_zero, List.set_cons_succ]
                    have LF := leafG (s0 := .slice a3 n3 c3) (s1 := .int .i64 B3) HF3.out HN3.out HX (by have := hr.out.2.lt; omega) (by have := hr.out.2.lt; have := F.out.hG; omega)
                    obtain ⟨xx0, xx1, xx2, xx3⟩ := blkp HX
                    have HLF := hide LF
                    clear LF
                    refine wpAnyH_ready (rs := [10]) (by kernel_rfl) (by simp) ?_
                    refine AllReadyH.cons rfl (fun K hK => ?_) AllReadyH.nil
                    simp only [List.getElem_toArray, List.getElem_cons_succ, List.getElem_cons_zero]
                    go_simp
                    refine hK.out _ _ ?_ (fun hHeld => ?_)
                    · exact HLF.out.2.1.cells2
                    clear hK K
                    try simp only [Act.put, List.setIfInBounds_toArray, List.set_cons_zero, List.set_cons_succ]
                    refine wpAnyH_take (i := 11) (v := ?vb12_) rfl (by kernel_rfl) (by kernel_rfl) (by kernel_rfl) (fun _ _ _ h => h) (Or.inl ⟨by rfl, ?yb12_⟩) (by assumption) ?rb12_
                    case yb12_ => (intro w hSw; (try dsimp only at hSw); go_simp; try (with_reducible rfl))
                    simp only [List.getElem_toArray, List.getElem_cons_succ, List.getElem_cons_zero, Act.put, List.setIfInBounds_toArray, List.set_cons_zero, List.set_cons_succ]
                    refine wpAnyH_done (by kernel_rfl) ?_ _
                    clear hHeld xx0 xx1 xx2 xx3
                    go_wp2_with fail
                    go_meet
                    exact ⟨_, a3, n3, c3, B3, ok, rfl, rfl, HLF.out⟩
                · skip
                  simp only [List.getElem_toArray, List.getElem_cons_succ, List.getElem_cons_zero]
                  go_simp
                  refine hK.out _ _ ?_ (fun hHeld => ?_)
                  · exact (F.out.drew.alloc _).cells2
                  clear hK K
                  try simp only [Act.put, List.setIfInBounds_toArray, List.set_cons_zero, List.set_cons_succ]
                  refine wpAnyH_ready (rs := [4]) (by kernel_rfl) (by simp) ?_
                  refine AllReadyH.cons rfl (fun K hK => ?_) AllReadyH.nil
                  simp only [List.getElem_toArray, List.getElem_cons_succ, List.getElem_cons_zero]
                  go_simp
                  go_at_call 53
                  refine (CP.out _ (F.out.drew.alloc _)).mono ?_
                  rintro e w2 ⟨r, rfl, hr, k2, s2⟩
                  dsimp only
                  refine hK.out _ _ ?_ (fun hHeld => ?_)
                  · exact hr.out.2.cells2
                  clear hK K
                  try simp only [Act.put, List.setIfInBounds_toArray, List.set_cons_zero, List.set_cons_succ]
                  refine wpAnyH_ready (rs := [5]) (by kernel_rfl) (by simp) ?_
                  refine AllReadyH.cons rfl (fun K hK => ?_) AllReadyH.nil
                  simp only [List.getElem_toArray, List.getElem_cons_succ, List.getElem_cons_zero]
                  go_simp
                  go_at_call 20
                  refine (CD.out _ _ hr).mono ?_
                  rintro e w3 ⟨a3, n3, c3, B3, ok, rfl, HF3, HN3, k3⟩
                  dsimp only
                  refine hK.out _ _ ?_ (fun hHeld => ?_)
                  · exact HF3.out.cells2
                  clear hK K
                  try simp only [Act.put, List.setIfInBounds_toArray, List.set_cons_zero, List.set_cons_succ]
                  have HX : w3.heap[wc.heap.size]? = some (.cells #[.slice none 0 0, .int .i64 0] 25 (0, 0)) := (k3.out _ (Nat.lt_of_lt_of_le (by show wc.heap.size < (World.alloc _ _).heap.size; simp) (s2.out))).trans ((k2.out _ (by show wc.heap.size < (World.alloc _ _).heap.size; simp) (by have := F.out.lt; have := F.out.hG; have := F.out.hb; omega)).trans (by show (World.alloc _ _).heap[_]? = _; exact blk_new wc.drew _))
                  refine wpAnyH_take (i := 6) (v := ?vb13_) rfl (by kernel_rfl) (by kernel_rfl) (by kernel_rfl) (fun _ _ _ h => h) (Or.inl ⟨by rfl, ?yb13_⟩) (by assumption) ?rb13_
                  case yb13_ => (intro w hSw; (try dsimp only at hSw); go_simp; try (with_reducible rfl))
                  simp only [List.getElem_toArray, List.getElem_cons_succ, List.getElem_cons_zero, Act.put, List.setIfInBounds_toArray, List.set_cons_zero, List.set_cons_succ]
                  refine wpAnyH_take (i := 7) (v := ?vb14_) rfl (by kernel_rfl) (by kernel_rfl) (by kernel_rfl) (fun _ _ _ h => h) (Or.inl ⟨by rfl, ?yb14_⟩) (by assumption) ?rb14_
                  case yb14_ => (intro w hSw; (try dsimp only at hSw); go_simp; try (with_reducible rfl))
                  simp only [List.getElem_toArray, List.getElem_cons_succ, List.getElem_cons_zero, Act.put, List.setIfInBounds_toArray, List.set_cons_zero, List.set_cons_succ]
                  refine wpAnyH_take (i := 8) (v := ?vb15_) rfl (by kernel_rfl) (by kernel_rfl) (by kernel_rfl) (fun _ _ _ h => h) (Or.inl ⟨by rfl, ?yb15_⟩) (by assumption) ?rb15_
                  case yb15_ => (intro w hSw; (try dsimp only at hSw); go_simp; try (with_reducible rfl))
                  simp only [List.getElem_toArray, List.getElem_cons_succ, List.getElem_cons_zero, Act.put, List.setIfInBounds_toArray, List.set_cons_zero, List.set_cons_succ]
                  have LF := leafG (s0 := .slice a3 n3 c3) (s1 := .int .i64 B3) HF3.out HN3.out HX (by have := F.out.lt; omega) (by have := F.out.lt; have := F.out.hG; omega)
                  obtain ⟨xx0, xx1, xx2, xx3⟩ := blkp HX
                  have HLF := hide LF
                  clear LF
                  refine wpAnyH_ready (rs := [10]) (by kernel_rfl) (by simp) ?_
                  refine AllReadyH.cons rfl (fun K hK => ?_) AllReadyH.nil
                  simp only [List.getElem_toArray, List.getElem_cons_succ, List.getElem_cons_zero]
                  go_simp
                  refine hK.out _ _ ?_ (fun hHeld => ?_)
                  · exact HLF.out.2.1.cells2
                  clear hK K
                  try simp only [Act.put, List.setIfInBounds_toArray, List.set_cons_zero, List.set_cons_succ]
                  refine wpAnyH_take (i := 11) (v := ?vb16_) rfl (by kernel_rfl) (by kernel_rfl) (by kernel_rfl) (fun _ _ _ h => h) (Or.inl ⟨by rfl, ?yb16_⟩) (by assumption) ?rb16_
                  case yb16_ => (intro w hSw; (try dsimp only at hSw); go_simp; try (with_reducible rfl))
                  simp only [List.getElem_toArray, List.getElem_cons_succ, List.getElem_cons_zero, Act.put, List.setIfInBounds_toArray, List.set_cons_zero, List.set_cons_succ]
                  refine wpAnyH_done (by kernel_rfl) ?_ _
                  clear hHeld xx0 xx1 xx2 xx3
                  go_wp2_with fail
                  go_meet
                  exact ⟨_, a3, n3, c3, B3, ok, rfl, rfl, HLF.out⟩
              case rest =>
                obtain ⟨X, a3, n3, c3, B3, ok, rfl, rfl, hX, hF3, hN3⟩ := hcut
                have G3 := hide hF3
                obtain ⟨g0, g1, g2, g3⟩ := G3.out.cells
                obtain ⟨x0, x1, _, _⟩ := blkp hX
                clear hF3 hX CP CD F
                cases ok with
                | true =>
                  obtain ⟨L3, M3, hp3, hl3, ho3, hd3⟩ := hN3 rfl
                  have P3 := hide (G3.out.put (B' := B3) hp3 hl3 ho3)
                  have HD3 := hide hd3
                  clear hp3 hl3 ho3 hd3 hN3
                  go_wp2_with fail
                  go_meet
                  exact ⟨rfl, a3, n3, c3, B3, L3, M3, HD3.out, P3.out⟩
                | false =>
                  clear hN3
                  go_wp2_with fail
                  go_meet
                  exact ⟨rfl, a, n, c, B, L, M, HD.out, G3.out⟩
          case rest =>
            obtain ⟨rfl, a, n, c, B, L, M, hd6, hF6⟩ := hcut
            have F6 := hide hF6
            have HD6 := hide hd6
            clear hF6 hd6 F5 HD H0
            go_wp2_with fail
            refine (pick_any b _ 30 _ F6.out.cur (by omega) (by omega) (by omega)).mono ?_
            rintro e w7 ⟨x7, rfl, h70, _, h71, hc7, hg7⟩
            have F := hide (F6.out.step hc7 hg7)
            have hB0 := HD6.out.b0
            have hB1 := HD6.out.b1
            clear hc7 hg7 h71 F6
            by_cases e0 : x7 = 0
            · subst e0
              have CP := hide (fun wx (h : LgF w b G (N + 136) a n c B L M wx) => (pick_lg3 (m := 9) h (by omega) (by omega) (by omega)).mono (R' := fun e w' => ∃ y : Int, e = .returned (.int .i64 y) ∧ 0 ≤ y ∧ y < 9 ∧ Hid (LgF w b G (N + 138) a n c B L M w') ∧ w'.cell? ⟨G, 1, none⟩ = some (.int .i64 B) ∧ w'.frozen? ⟨G, 1, none⟩ = false) (by
                rintro e w' ⟨y, rfl, h0, h1, hF⟩
                exact ⟨y, rfl, h0, h1, hF, hF.out.cells.2.1, hF.out.cells.2.2.2⟩))
              obtain ⟨o0, o1, _, _⟩ := F.out.cells
              go_upto_region 17 with fail
              go_region_with (first
                | (go_at_call 53; refine (CP.out _ (by first | exact F.out.drew | exact F.out)).mono ?_; rintro e w2 ⟨y, rfl, hy0, hy1, hF2, c0, c1⟩))
              all_goals (
                have F9 := hide (hF2.out.setB (B + (y - 2)))
                have HD9 : Hid (DrC L (B + (y - 2))) := ⟨HD6.out.one, HD6.out.many, HD6.out.c.ps, by omega, by omega⟩
                clear hF2 CP
                go_upto_region 22 with fail
                obtain ⟨W9, hW9⟩ : ∃ W9, W9 = w2.setCell ⟨G, 1, none⟩ (.int .i64 (B + (y - 2))) := ⟨_, rfl⟩
                rw [← hW9] at F9
                rw [show IntKind.i64.wrap (y - 2) = y - 2 from wrap6 (by omega) (by omega), show IntKind.i64.wrap (B + (y - 2)) = B + (y - 2) from wrap6 (by omega) (by omega), ← hW9]
                clear hW9
                obtain ⟨o0, o1, _, _⟩ := F9.out.cells
                obtain ⟨z0, z1, z2, z3⟩ := blkp F9.out.res
                go_wp2
                refine bodyPost_ret (v := .agg #[.slice a n c, .int .i64 (B + (y - 2))]) ?_ ?_ ?_
                · simp [results, Tryd.f31, go_sem, z0, z1]
                · rfl
                · exact ((F9.out.mono (show _ ≤ N + 200 by omega)).out HD9.out)
)
            · by_cases e1 : x7 = 1
              · subst e1
                obtain ⟨g, rfl, hgG, hgw, hnc⟩ := F.out.rowG (by have := HD6.out.one; have := F.out.len; omega)
                have hn0 : 0 < n := by have := HD6.out.one; have := F.out.len; omega
                have hml := F.out.own.len
                have hfl : (flatC M).length = n * 3 := by rw [flatC_len, hml]
                have hpm : (M.getD 0 eV).1 = gc L 0 := by
                  have := pcs_get M 0 (by omega)
                  rw [F.out.pcs] at this
                  exact this.symm
                have d1 := (F.out.own.row.cellAt (0 * 3 + 1) (by omega)).trans (flatC_get M 0 (by omega)).2.1
                have d2 := F.out.own.row.frozenAt (0 * 3 + 1)
                rw [hpm] at d1
                have hsz := (HD6.out.ps 0 (by have := F.out.len; omega)).1
                obtain ⟨s, hs⟩ : ∃ s, s = (gc L 0).s := ⟨_, rfl⟩
                rw [← hs] at d1 hsz
                simp only [Nat.zero_mul, Nat.zero_add] at d1 d2
                have hz2 : (⟨#[4, 97]⟩ : ByteArray).size = 2 := rfl
                have qa : ∀ w : World, (Op.stringOp .add s ⟨#[4, 97]⟩).run Tryd.prog w = .ok (.string (s ++ ⟨#[4, 97]⟩)) w := fun w => run_string_add_sum w _ _ (by omega)
                have SS := F.out.own.setS 0 hn0 (s ++ ⟨#[4, 97]⟩)
                simp only [Nat.zero_mul, Nat.zero_add] at SS
                have F9 := hide (F.out.ofOwn (L' := L.set 0 ⟨(M.getD 0 eV).1.f, s ++ ⟨#[4, 97]⟩, (M.getD 0 eV).1.x⟩) hgG hgw SS.1 SS.2 (by rw [pcs_set, F.out.pcs]) (by simpa using F.out.len))
                have HD9 : Hid (DrC (L.set 0 ⟨(M.getD 0 eV).1.f, s ++ ⟨#[4, 97]⟩, (M.getD 0 eV).1.x⟩) B) := HD6.out.set 0 (by have := F.out.len; omega) _ (by show (_ ++ _ : ByteArray).size ≤ _; rw [ByteArray.size_append, ← hs]; omega) (by rw [hpm]) (by show _ ≤ (M.getD 0 eV).1.f; rw [hpm]; exact Int.le_refl _) (by show (M.getD 0 eV).1.f ≤ _; rw [hpm]; omega)
                obtain ⟨o0, o1, _, _⟩ := F.out.cells
                clear SS hpm hs hml hfl
                go_upto_region 22 with fail
                generalize hW9 : w7.setCell ⟨g, 1, none⟩ (.string (s ++ ⟨#[4, 97]⟩)) = W9 at F9
                try rw [hW9]
                clear hW9 o0 o1 d1 d2 F
                obtain ⟨o0, o1, _, _⟩ := F9.out.cells
                obtain ⟨z0, z1, z2, z3⟩ := blkp F9.out.res
                go_wp2
                refine bodyPost_ret (v := .agg #[.slice (some ⟨g, 0, none⟩) n c, .int .i64 B]) ?_ ?_ ?_
                · simp [results, Tryd.f31, go_sem, z0, z1]
                · rfl
                · exact ((F9.out.mono (show _ ≤ N + 200 by omega)).out HD9.out)
              · by_cases e2 : x7 = 2
                · subst e2
                  obtain ⟨g, rfl, hgG, hgw, hnc⟩ := F.out.rowG (by have := HD6.out.one; have := F.out.len; omega)
                  have hn0 : 0 < n := by have := HD6.out.one; have := F.out.len; omega
                  have hn20 : n ≤ 20 := by have := HD6.out.many; have := F.out.len; omega
                  have hn0I : (0 : Int) < (n : Int) := by omega
                  have CP := hide (fun wx (h : LgF w b G (N + 136) (some ⟨g, 0, none⟩) n c B L M wx) => (pick_lg3 (m := (n : Int)) h (by omega) (by omega) (by omega)).mono (R' := fun e w' => ∃ (i : Nat) (fi : Int), e = .returned (.int .i64 (i : Int)) ∧ i < n ∧ Hid (fi = (gc L i).f) ∧ Hid (LgF w b G (N + 138) (some ⟨g, 0, none⟩) n c B L M w') ∧ w'.cell? ⟨G, 0, none⟩ = some (.slice (some ⟨g, 0, none⟩) n c) ∧ w'.cell? ⟨g, i * 3, none⟩ = some (.int .i64 fi) ∧ w'.frozen? ⟨g, i * 3, none⟩ = false) (by
                    rintro e w' ⟨y, rfl, h0, h1, hF⟩
                    obtain ⟨i, rfl⟩ : ∃ i : Nat, y = (i : Int) := ⟨y.toNat, by omega⟩
                    have hml := hF.out.own.len
                    have hfl : (flatC M).length = n * 3 := by rw [flatC_len, hml]
                    have hpm : (M.getD i eV).1 = gc L i := by
                      have := pcs_get M i (by omega)
                      rw [hF.out.pcs] at this
                      exact this.symm
                    have d1 := (hF.out.own.row.cellAt (i * 3) (by omega)).trans (flatC_get M i (by omega)).1
                    rw [hpm] at d1
                    exact ⟨i, _, rfl, by omega, rfl, hF, hF.out.cells.1, d1, hF.out.own.row.frozenAt (i * 3)⟩))
                  obtain ⟨o0, o1, _, _⟩ := F.out.cells
                  have HFB : Hid (∀ i, i < n → 0 ≤ (gc L i).f ∧ (gc L i).f ≤ 1300) := hide (fun i hi => (HD6.out.ps i (by have := F.out.len; omega)).2.2)
                  go_upto_region 21 with fail
                  go_region_with (first
                    | (go_at_call 53; refine (CP.out _ (by first | exact F.out.drew | exact F.out)).mono ?_; rintro e w2 ⟨i, fi, rfl, hin, hfi, hF2, c0, c1, c2⟩; have hf0 : 0 ≤ fi := (by rw [hfi.out]; exact (HFB.out i hin).1); have hf1 : fi ≤ 1300 := (by rw [hfi.out]; exact (HFB.out i hin).2); have hinI : (i : Int) < (n : Int) := by omega))
                  all_goals (
                    have hml := hF2.out.own.len
                    have hpm : (M.getD i eV).1 = gc L i := by
                      have := pcs_get M i (by omega)
                      rw [hF2.out.pcs] at this
                      exact this.symm
                    have SS := hF2.out.own.setF i hin (fi + 1)
                    have F9 := hide (hF2.out.ofOwn (L' := L.set i ⟨fi + 1, (M.getD i eV).1.s, (M.getD i eV).1.x⟩) hgG hgw SS.1 SS.2 (by rw [pcs_set, hF2.out.pcs]) (by simpa using hF2.out.len))
                    have HD9 : Hid (DrC (L.set i ⟨fi + 1, (M.getD i eV).1.s, (M.getD i eV).1.x⟩) B) := HD6.out.set i (by have := hF2.out.len; omega) _ (by show (M.getD i eV).1.s.size ≤ _; rw [hpm]; omega) (by rw [hpm]) (by show _ ≤ fi + 1; rw [hfi.out]; omega) (by show fi + 1 ≤ _; rw [hfi.out]; exact Int.le_refl _)
                    clear SS hF2 CP
                    go_upto_region 22 with fail
                    obtain ⟨W9, hW9⟩ : ∃ W9, W9 = w2.setCell ⟨g, i * 3, none⟩ (.int .i64 (fi + 1)) := ⟨_, rfl⟩
                    rw [← hW9] at F9
                    rw [show IntKind.i64.wrap (fi + 1) = fi + 1 from wrap6 (by omega) (by omega), ← hW9]
                    clear hW9 F
                    obtain ⟨o0, o1, _, _⟩ := F9.out.cells
                    obtain ⟨z0, z1, z2, z3⟩ := blkp F9.out.res
                    go_wp2
                    refine bodyPost_ret (v := .agg #[.slice (some ⟨g, 0, none⟩) n c, .int .i64 B]) ?_ ?_ ?_
                    · simp [results, Tryd.f31, go_sem, z0, z1]
                    · rfl
                    · exact ((F9.out.mono (show _ ≤ N + 200 by omega)).out HD9.out)
)
                · have q0 : (x7 == 0) = false := by simpa using e0
                  have q1 : (x7 == 1) = false := by simpa using e1
                  have q2 : (x7 == 2) = false := by simpa using e2
                  clear e0 e1 e2
                  obtain ⟨o0, o1, _, _⟩ := F.out.cells
                  obtain ⟨z0, z1, z2, z3⟩ := blkp F.out.res
                  go_wp2
                  refine bodyPost_ret (v := .agg #[.slice a n c, .int .i64 B]) (by simp [results, Tryd.f31, go_sem, z0, z1]) rfl ((F.out.mono (show _ ≤ N + 200 by omega)).out HD6.out.c)
end Go.Proofs.YtbcljhafdpnjbabDoor.L6

namespace Go.Proofs.YtbcljhafdpnjbabDoor.L1
open Go.RowKit
set_option linter.unusedVariables false

theorem grown_then_below {a b c : World} {r : Option Nat} (h : a.grownBy b r) (k : Below a.heap.size b c) : a.grownBy c r :=
  ⟨k.os.trans h.os, k.tape.trans h.tape, k.output.trans h.output, Nat.le_trans h.size k.size, fun i hi hn => (k.block i hi).trans (h.block i hi hn)⟩
theorem Cur.keptBelow {w w' : World} {b N B : Nat} (h : Cur w b N) (hb : Below B w w') (hB : b < B) : Cur w' b N := h.kept fun k hk => hb.block k (by omega)
theorem one_conv (w : World) (x : Int) :
    (convert 22 9 (.slice (some ⟨w.heap.size, 0, none⟩) 1 1)).run Tryd.prog (w.alloc (.cells #[.int .u8 x] 5)) = .ok (.string (strOfNums [x])) (w.alloc (.cells #[.int .u8 x] 5)) :=
  run_convert_bytes_arg _ 22 5 Tryd.underlying22 Tryd.underlying5 w.heap.size 0 1 1 [x] rfl (fun i hi => by
    obtain rfl : i = 0 := by omega
    simp) 9 Tryd.underlying9

set_option maxRecDepth 100000 in
set_option maxHeartbeats 1000000 in
theorem spoilt_any (b N : Nat) (t wi : ByteArray) (w : World) (h : Cur w b N) (hN : N ≤ 10000000) (ht : t.size ≤ 100000) (hw1 : 1 ≤ wi.size) (hw2 : wi.size ≤ 100) :
    Calls Tryd.prog 58 #[.pointer (some ⟨b, 0, none⟩), .string t, .string wi] w fun e w' => ∃ (u : ByteArray), e = .returned (.string u) ∧ u.size ≤ t.size + 2 ∧ Cur w' b (N + 14) ∧ w.grownBy w' (some b) := by
  have HC := hide h
  clear h
  go_enter Tryd.func58, Tryd.ntmps58
  go_wp2_with fail
  refine (pick_any b N _ _ HC.out (by omega) (by omega) (by omega)).mono ?_
  rintro e w1 ⟨x, rfl, hx0, hx1, hx2, hc1, hg1⟩
  have hx3 : x < 3 := hx2 (by omega)
  obtain ⟨k0, rfl⟩ : ∃ k : Nat, x = (k : Int) := ⟨x.toNat, by omega⟩
  have hk0 : k0 ≤ 2 := by omega
  have H1 := hide hc1
  have G1 := hide hg1
  clear hc1 hg1 hx2
  go_wp2
  go_loopw [1, 7] (fun o i wr => ∃ (k : Nat) (u : ByteArray), k ≤ 2 ∧ u.size + k ≤ t.size + 2 ∧ i = .int .i64 (k : Int) ∧ o = .string u ∧ Hid (Cur wr b (N + 14 - 6 * k)) ∧ Hid (w.grownBy wr (some b))) (fun _ i _ => (intOf i).toNat)
  case atStart => exact ⟨k0, t, hk0, by omega, rfl, rfl, H1.out.mono (by omega), G1.out⟩
  case round =>
    obtain ⟨k, u, hk, hu, rfl, rfl, HCr, HGr⟩ := hrel
    by_cases hlt : 0 < k
    · have hltI : (0 : Int) < (k : Int) := by omega
      by_cases hu0 : 0 < u.size
      · have huI : (0 : Int) < (u.size : Int) := by omega
        go_wp2_with fail
        refine (pick_any b (N + 14 - 6 * k) _ _ HCr.out (by omega) (by omega) (by omega)).mono ?_
        rintro e w2 ⟨i, rfl, hi0, hi1, hi2, hc2, hg2⟩
        have hi3 : i < (u.size : Int) := hi2 (by omega)
        obtain ⟨j, rfl⟩ : ∃ j : Nat, i = (j : Int) := ⟨i.toNat, by omega⟩
        have hj : j < u.size := by omega
        have H2 := hide hc2
        have G2 := hide (grown_trans HGr.out hg2)
        clear hc2 hg2 hi2 HCr HGr
        go_wp2_with fail
        refine (pick_any b (N + 14 - 6 * k + 2) _ _ H2.out (by omega) (by omega) (by omega)).mono ?_
        rintro e w3 ⟨i2, rfl, hp0, hp1, hp2, hc3, hg3⟩
        have hp3 : i2 < (wi.size : Int) := hp2 (by omega)
        obtain ⟨q, rfl⟩ : ∃ q : Nat, i2 = (q : Int) := ⟨i2.toNat, by omega⟩
        have hq : q < wi.size := by omega
        have H3 := hide hc3
        have G3 := hide (grown_trans G2.out hg3)
        have hcv := one_conv w3 ((wi[q]'hq).toNat : Int)
        have hWs : (strOfNums [((wi[q]'hq).toNat : Int)]).size = 1 := by rw [strOfNums_size]; rfl
        obtain ⟨Wd, hWd⟩ : ∃ Wd, Wd = strOfNums [((wi[q]'hq).toNat : Int)] := ⟨_, rfl⟩
        rw [← hWd] at hcv hWs
        have hWs2 : Wd.size ≤ 1 := by omega
        have hus : u.size ≤ 100002 := by omega
        have C3 := hide (H3.out.alloc (Obj.cells #[Value.int .u8 ((wi[q]'hq).toNat : Int)] 5))
        have D3 := hide (grown_trans G3.out (grown_alloc w3 (Obj.cells #[Value.int .u8 ((wi[q]'hq).toNat : Int)] 5) b))
        clear hc3 hg3 hp2 H2 G2 H3 G3 hWd hWs
        go_wp2_with fail
        refine (pick_any b (N + 14 - 6 * k + 4) _ _ C3.out (by omega) (by omega) (by omega)).mono ?_
        rintro e w4 ⟨z, rfl, hz0, hz1, hz2, hc4, hg4⟩
        have hz3 : z < 3 := hz2 (by omega)
        have H4 := hide hc4
        have G4 := hide (grown_trans D3.out hg4)
        have hj0I : (0 : Int) ≤ (j : Int) := by omega
        have hj1I : (j : Int) ≤ (u.size : Int) := by omega
        have hj2I : (j : Int) + 1 ≤ (u.size : Int) := by omega
        have hs1 := @ByteArray.size_extract u 0 j
        have hs2 := @ByteArray.size_extract u j u.size
        have hs3 := @ByteArray.size_extract u (j + 1) u.size
        have hb1 : (u.extract 0 j).size ≤ 100002 := by omega
        have hb2 : (u.extract j u.size).size ≤ 100002 := by omega
        have hb3 : (u.extract (j + 1) u.size).size ≤ 100002 := by omega
        have hz : z = 0 ∨ z = 1 ∨ z = 2 := by omega
        have HS := hide (And.intro hs1 (And.intro hs2 hs3))
        clear hc4 hg4 hz2 C3 D3 hs1 hs2 hs3 hcv
        rcases hz with rfl | rfl | rfl
        · go_wp2
          go_quiet (fail)
          go_wp2
          go_roundw
          case rel =>
            refine ⟨k - 1, _, by omega, ?_, by go_num, rfl, (H4.out.kept (fun _ _ => rfl)).mono (by omega), grown_trans G4.out ⟨rfl, rfl, rfl, Nat.le_refl _, fun _ _ _ => rfl⟩⟩
            have := HS.out
            simp only [ByteArray.size_append]
            omega
          case measure => simp [intOf]; omega
        · go_wp2
          go_quiet (fail)
          go_wp2
          go_roundw
          case rel =>
            refine ⟨k - 1, _, by omega, ?_, by go_num, rfl, (H4.out.kept (fun _ _ => rfl)).mono (by omega), grown_trans G4.out ⟨rfl, rfl, rfl, Nat.le_refl _, fun _ _ _ => rfl⟩⟩
            have := HS.out
            simp only [ByteArray.size_append]
            omega
          case measure => simp [intOf]; omega
        · go_wp2
          go_quiet (fail)
          go_wp2
          go_roundw
          case rel =>
            refine ⟨k - 1, _, by omega, ?_, by go_num, rfl, (H4.out.kept (fun _ _ => rfl)).mono (by omega), grown_trans G4.out ⟨rfl, rfl, rfl, Nat.le_refl _, fun _ _ _ => rfl⟩⟩
            have := HS.out
            simp only [ByteArray.size_append]
            omega
          case measure => simp [intOf]; omega
      · have huI : ¬ (0 : Int) < (u.size : Int) := by omega
        go_wp2
        go_ret
        exact ⟨_, rfl, by omega, HCr.out.mono (by omega), HGr.out⟩
    · have hltI : ¬ (0 : Int) < (k : Int) := by omega
      go_wp2
      go_ret
      exact ⟨_, rfl, by omega, HCr.out.mono (by omega), HGr.out⟩
end Go.Proofs.YtbcljhafdpnjbabDoor.L1

namespace Go.Proofs.YtbcljhafdpnjbabDoor.L6
open Go.RowKit L1
set_option linter.unusedVariables false

theorem cur_newL {w : World} {a : Option Addr} {n cap : Nat} (h : Slb w w.heap.size a n) (hn : n ≤ 1048576) : Cur (w.alloc (Obj.cells #[.slice a n cap, .int .i64 0, .int .u64 0] 58)) w.heap.size 0 := by
  refine ⟨a, n, cap, 0, 0, ?_, Nat.le_refl _, hn, ?_⟩
  · show (w.heap.push _)[w.heap.size]? = _
    exact Array.getElem?_push_size
  · intro i hi
    obtain ⟨bb, off, x, ha, hb, hc, hx⟩ := h i hi
    exact ⟨bb, off, x, ha, hb, (((Below.refl w.heap.size w).alloc (Nat.le_refl _) _).cell (p := ⟨bb, off + i, none⟩) hb).trans hc, hx⟩
theorem grown_to_belowL {w w' : World} {o : Obj} (h : (w.alloc o).grownBy w' (some w.heap.size)) : Below w.heap.size w w' := by
  have hal := (Below.refl w.heap.size w).alloc (Nat.le_refl _) o
  refine ⟨h.os.trans hal.os, h.tape.trans hal.tape, h.output.trans hal.output, Nat.le_trans hal.size h.size, fun k hk => (h.block k (Nat.lt_of_lt_of_le hk hal.size) (fun e => ?_)).trans (hal.block k hk)⟩
  cases e
  omega
theorem slb_mono {w : World} {b c : Nat} {a : Option Addr} {n : Nat} (h : Slb w b a n) (hbc : b ≤ c) : Slb w c a n := fun i hi => by
  obtain ⟨bb, off, x, ha, hb, hc, hx⟩ := h i hi
  exact ⟨bb, off, x, ha, Nat.lt_of_lt_of_le hb hbc, hc, hx⟩
theorem slb_alloc {w : World} {b : Nat} {a : Option Addr} {n : Nat} (h : Slb w b a n) (o : Obj) : Slb (w.alloc o) b a n := fun i hi => by
  obtain ⟨bb, off, x, ha, hb, hc, hx⟩ := h i hi
  exact ⟨bb, off, x, ha, hb, Go.Lib.cell?_alloc_some o hc, hx⟩

set_option maxRecDepth 100000 in
set_option maxHeartbeats 1000000 in
theorem drawTearEnd_any (a : Option Addr) (n cap : Nat) (w : World) (h : Slb w w.heap.size a n) (hn : n ≤ 1048576) :
    Calls Tryd.prog 22 #[.slice a n cap] w fun e w' => ∃ ga m gc' B k L M, e = .returned (.tuple #[.agg #[.slice ga m gc', .int .i64 B], .int .i64 k]) ∧ pcs M = L ∧ L.length = m ∧ OwC w' w.heap.size (.slice ga m gc') m M ∧ DrC L B ∧ (-1 ≤ k ∧ k ≤ 29) ∧ Below w.heap.size w w' := by
  obtain ⟨W0, hW0⟩ : ∃ W0, W0 = w.alloc (.cells #[.slice none 0 0, .int .i64 0] 25 (0, 0)) := ⟨_, rfl⟩
  have hz0 : W0.heap.size = w.heap.size + 1 := by rw [hW0]; simp
  have hB0 : Below w.heap.size w W0 := by rw [hW0]; exact (Below.refl _ _).alloc (Nat.le_refl _) _
  have hS0 : Slb W0 W0.heap.size a n := by rw [hW0]; exact slb_mono (slb_alloc h _) (by simp)
  have hR0 : W0.heap[w.heap.size]? = some (.cells #[.slice none 0 0, .int .i64 0] 25 (0, 0)) := by rw [hW0]; exact blk_new _ _
  have HC := hide (cur_newL (cap := cap) hS0 hn)
  have HZ := hide hz0
  have HB0 := hide hB0
  have HR0 := hide hR0
  have HW := hide hW0.symm
  clear h hS0 hB0 hR0 hW0 hz0
  go_enter Tryd.func22, Tryd.ntmps22
  go_upto_region 1 with fail
  rw [HW.out]
  go_wp2_with fail
  refine (log_any _ _ _ HC.out (by omega)).mono ?_
  rintro e w1 ⟨ga, m, gc', B, L, M, rfl, hM, hL, ho, hd, hc, hg⟩
  have O1 := hide ho
  have C1 := hide hc
  have G1 := hide hg
  have HM := hide hM
  have HL := hide hL
  have HD := hide hd
  clear HC ho hc hg hM hL hd
  go_wp2_with fail
  refine (pick_any _ _ 30 _ C1.out (by omega) (by omega) (by omega)).mono ?_
  rintro e w2 ⟨y, rfl, hy0, _, hy1, hc2, hg2⟩
  have hy30 := hy1 (by omega)
  have O2 := hide (O1.out.grown hg2 (by simp))
  have G2 := hide (L1.grown_trans G1.out hg2)
  have B2 := hide (grown_to_belowL G2.out)
  have R2 := hide ((B2.out.block w.heap.size (by have := HZ.out; omega)).trans HR0.out)
  obtain ⟨z0, z1, z2, z3⟩ := blkp R2.out
  have hcur := C1.out.lt
  clear hc2 hg2 G1 C1 O1 hy1
  go_wp2
  refine bodyPost_ret (v := .tuple #[.agg #[.slice ga m gc', .int .i64 B], .int .i64 (y - 1)]) ?_ ?_ ?_
  · simp [results, Tryd.f22, go_sem, z0, z1]
  · rfl
  · have z : w.heap.size < (W0.alloc (Obj.cells #[.slice a n cap, .int .i64 0, .int .u64 0] 58)).heap.size := by have := HZ.out; simp; omega
    exact ⟨ga, m, gc', B, y - 1, L, M, rfl, HM.out, HL.out, ((O2.out.setC ⟨w.heap.size, 0, none⟩ _ z).setC ⟨w.heap.size, 1, none⟩ _ z).base (by have := HZ.out; simp; omega), HD.out, ⟨by omega, by omega⟩, ((HB0.out.trans (B2.out.mono (by have := HZ.out; omega))).setCell (p := ⟨w.heap.size, 0, none⟩) (Nat.le_refl _) _).setCell (p := ⟨w.heap.size, 1, none⟩) (Nat.le_refl _) _⟩

set_option maxRecDepth 100000 in
set_option maxHeartbeats 1000000 in
theorem drawRecoverPiece_any (a : Option Addr) (n cap : Nat) (w : World) (h : Slb w w.heap.size a n) (hn : n ≤ 1048576) :
    Calls Tryd.prog 25 #[.slice a n cap] w fun e w' => ∃ (f : Int) (s : ByteArray), e = .returned (.tuple #[.int .i64 f, .string s]) ∧ (-1 ≤ f ∧ f ≤ 1001) ∧ s.size ≤ 64 ∧ Below w.heap.size w w' := by
  have HC := hide (cur_newL (cap := cap) h hn)
  clear h
  go_enter Tryd.func25, Tryd.ntmps25
  go_wp2_with fail
  refine (log_any _ _ _ HC.out (by omega)).mono ?_
  rintro e w1 ⟨ga, m, gc', B, L, M, rfl, hM, hL, ho, hd, hc, hg⟩
  have hone := hd.one
  have hm0 : 0 < m := by omega
  have hm20 : m ≤ 20 := by have := hd.many; omega
  have hm0I : (0 : Int) < (m : Int) := by omega
  have hsl := ho.sl
  rw [hM] at hsl
  obtain ⟨b, off, rfl, ai, ci, hat⟩ := hsl 0 (by omega)
  have hs0 := hat.s
  have hsz := (hd.ps 0 (by omega)).1
  obtain ⟨s, hs⟩ : ∃ s, s = (gc L 0).s := ⟨_, rfl⟩
  rw [show (L.getD 0 eC).s = s from hs.symm] at hs0
  rw [← hs] at hsz
  rw [Nat.zero_mul, Nat.add_zero] at hs0
  have hcell : ∀ ob, (w1.alloc ob).cell? ⟨b, off + 1, none⟩ = some (.string s) := fun ob => Go.Lib.cell?_alloc_some ob hs0
  have C1 := hide (fun ob => hc.alloc ob)
  have G1 := hide (fun ob => L1.grown_trans hg (L1.grown_alloc _ ob _))
  have hlt1 := hc.lt
  clear HC hM hL ho hd hc hg hone hsl hat hs0 hs
  go_wp2_with fail
  refine (one_any _ _ 2 _ (C1.out _) (by omega) (by omega) (by omega)).mono ?_
  rintro e w3 ⟨q, rfl, hc3, hg3⟩
  have hbd : ∀ j, j < 5 → -1 ≤ [(-1 : Int), 0, 7, 1000, 1001].getD j 0 ∧ [(-1 : Int), 0, 7, 1000, 1001].getD j 0 ≤ 1001 := by decide
  have HBD := hide hbd
  have C3 := hide hc3
  have G3 := hide (L1.grown_trans (G1.out _) hg3)
  clear hbd hc3 hg3 C1 G1 hcell
  go_upto_if 18 with fail
  go_cut [6] (fun t wx => ∃ u : ByteArray, t = .string u ∧ u.size ≤ 64 ∧ Hid (Cur wx w.heap.size 300) ∧ Hid ((w.alloc (Obj.cells #[.slice a n cap, .int .i64 0, .int .u64 0] 58)).grownBy wx (some w.heap.size)))
  case first =>
    cases q with
    | false =>
      go_wp2
      go_meet
      case rel => exact ⟨s, rfl, by omega, hide (C3.out.mono (by omega)), hide G3.out⟩
    | true =>
      go_wp2_with fail
      refine (spoilt_any _ _ s _ _ C3.out (by omega) (by omega) (by decide) (by decide)).mono ?_
      rintro e w4 ⟨u, rfl, hu, hc4, hg4⟩
      have C4 := hide (hc4.mono (show _ ≤ 300 by omega))
      have G4 := hide (L1.grown_trans G3.out hg4)
      clear hc4 hg4 C3 G3
      go_wp2
      go_meet
      case rel => exact ⟨u, rfl, by omega, hide C4.out, hide G4.out⟩
  case rest =>
  obtain ⟨u, rfl, hu64, C5, G5⟩ := hcut
  clear C3 G3
  go_wp2_with fail
  refine (among_any _ _ _ 5 5 [-1, 0, 7, 1000, 1001] _ (C5.out.alloc _) (by omega) rfl (by omega) (by omega) (by have := C5.out.lt; omega) (lit_row _ _ _ rfl)).mono ?_
  rintro e w6 ⟨j, hj, rfl, hc6, hg6⟩
  have hb := HBD.out j hj
  have B6 := hide (grown_to_belowL (L1.grown_trans (L1.grown_trans G5.out (L1.grown_alloc _ _ _)) hg6))
  obtain ⟨f, hf⟩ : ∃ f, f = [(-1 : Int), 0, 7, 1000, 1001].getD j 0 := ⟨_, rfl⟩
  rw [← hf] at hb ⊢
  clear hc6 hg6 hf
  go_wp2
  go_ret2
  exact ⟨f, u, rfl, hb, hu64, B6.out⟩
end Go.Proofs.YtbcljhafdpnjbabDoor.L6

namespace Go.Proofs.YtbcljhafdpnjbabDoor.L6
open Go.RowKit L1
set_option linter.unusedVariables false

theorem blk_secondT (w : World) (x y : Obj) : ((w.alloc x).alloc y).heap[w.heap.size + 1]? = some y := by
  have := blk_new (w.alloc x) y
  rw [World.size_alloc] at this
  exact this
theorem blk_firstT (w : World) (x y : Obj) : ((w.alloc x).alloc y).heap[w.heap.size]? = some x :=
  (((Below.refl (w.alloc x).heap.size _).alloc (Nat.le_refl _) _).block w.heap.size (by simp)).trans (blk_new _ _)

theorem gc_set_self (L : List Pc) (m : Nat) (p : Pc) (h : m < L.length) : gc (L.set m p) m = p := by simp [gc, List.getD, h]
theorem gc_set_ne (L : List Pc) (m i : Nat) (p : Pc) (h : i ≠ m) : gc (L.set m p) i = gc L i := by simp [gc, List.getD, List.getElem?_set_ne (Ne.symm h)]
/-- The copy with its last piece torn. -/
structure TornAt (w : World) (base go g n m : Nat) (B : Int) (M : List PV) (p : Pc) (wx : World) : Prop where
  own : ∃ u, OwC wx base (.slice (some ⟨g, 0, none⟩) n n) n (M.set m (p, u))
  bel : Below w.heap.size w wx
  res : wx.heap[w.heap.size + 1]? = some (.cells #[.slice none 0 0, .int .i64 0] 25 (0, 0))
  out : wx.heap[go]? = some (.cells #[.slice (some ⟨g, 0, none⟩) n n, .int .i64 B] 25 (0, 0))

open Classical in
set_option maxRecDepth 100000 in
set_option maxHeartbeats 4000000 in
theorem implTear_any (a : Option Addr) (L : List Pc) (n cap : Nat) (B b : Int) (w : World) (hn : L.length = n) (hm : n ≤ 9223372036854775807) (hs : SlC w a L) (hst : TxC L) (ht : Tab w) (L' : List Pc) (B' left : Int) (ok : Bool) (hr : TearIs L B b L' B' left ok) :
    Calls Tryd.prog 23 #[.agg #[.slice a n cap, .int .i64 B], .int .i64 b] w (RetG w L' B' left ok) := by
  obtain ⟨bk, hbk⟩ : ∃ bk : Bool, bk = true ↔ GoodG L B := ⟨decide (GoodG L B), by simp⟩
  have C1 := hide (fun wx (hb : Below w.heap.size w wx) => goodLog_any a L n cap B wx hn hm (hs.below hb) hst (ht.below hb) bk hbk)
  cases bk with
  | false =>
    obtain ⟨rfl, rfl, rfl, rfl⟩ := hr.no (fun h => absurd (hbk.2 h.1) (by simp))
    clear hr hs hn hst hbk ht
    go_enter Tryd.func23, Tryd.ntmps23
    go_wp2_with fail
    refine (C1.out _ (((Below.refl _ _).alloc (Nat.le_refl _) _).alloc (by simp) _)).mono ?_
    rintro e w1 ⟨rfl, hb1⟩
    obtain ⟨z0, z1, z2, z3⟩ := blkp ((hb1.block (w.heap.size + 1) (by simp)).trans (blk_secondT w _ _))
    have B1 := hide ((((Below.refl w.heap.size w).alloc (Nat.le_refl _) (.cells #[.slice a n cap, .int .i64 B] 25 (0, 0))).alloc (by simp) (.cells #[.slice none 0 0, .int .i64 0] 25 (0, 0))).trans (hb1.mono (by simp; omega)))
    clear hb1
    go_wp2
    refine bodyPost_ret (v := .tuple #[.agg #[.slice none 0 0, .int .i64 0], .int .i64 0, .bool false]) (by simp [results, Tryd.f23, go_sem, z0, z1]) rfl (retG_none ((B1.out.setCell (p := ⟨_, _, none⟩) (Nat.le_succ _) _).setCell (p := ⟨_, _, none⟩) (Nat.le_succ _) _))
  | true =>
    have hg := hbk.1 rfl
    have hn1 : 1 ≤ n := by have := hg.one; omega
    have hn20 : n ≤ 20 := by have := hg.many; omega
    have C2 := hide (fun wx (hb : Below w.heap.size w wx) => copyLog_any a L n cap B wx hn hn1 hn20 (hs.below hb) (hg.small hn))
    have HS := hide hs
    have HN := hide hn
    have HG := hide hg
    have HT := hide ht
    have HR := hide hr
    clear hs hn hg hst hbk hr ht
    go_enter Tryd.func23, Tryd.ntmps23
    go_wp2_with fail
    refine (C1.out _ (((Below.refl _ _).alloc (Nat.le_refl _) _).alloc (by simp) _)).mono ?_
    rintro e w0 ⟨rfl, hb1⟩
    have G1 : Hid (w0.heap[w.heap.size + 1]? = some (.cells #[.slice none 0 0, .int .i64 0] 25 (0, 0))) := (hb1.block (w.heap.size + 1) (by simp)).trans (blk_secondT w _ _)
    have B1 := hide ((((Below.refl w.heap.size w).alloc (Nat.le_refl _) (.cells #[.slice a n cap, .int .i64 B] 25 (0, 0))).alloc (by simp) (.cells #[.slice none 0 0, .int .i64 0] 25 (0, 0))).trans (hb1.mono (by simp; omega)))
    obtain ⟨k0, k1, _, _⟩ := blkp ((hb1.block w.heap.size (by simp only [World.size_alloc]; omega)).trans (blk_firstT w _ _))
    clear hb1
    go_wp2_with fail
    refine (C2.out _ (by first | exact B1.out | exact B1.out.alloc B1.out.size _)).mono ?_
    rintro e w1 ⟨g, M, rfl, hM, ho, hb2⟩
    have B2 := hide (B1.out.trans (hb2.mono B1.out.size))
    have G2 : Hid (w1.heap[w.heap.size + 1]? = some (.cells #[.slice none 0 0, .int .i64 0] 25 (0, 0))) := (hb2.block (w.heap.size + 1) (Array.getElem?_eq_some_iff.1 G1.out).1).trans G1.out
    obtain ⟨z0, z1, z2, z3⟩ := blkp G2.out
    have hz1 : w.heap.size + 1 < w0.heap.size := (Array.getElem?_eq_some_iff.1 G1.out).1
    have hgb := own_ltC ho.row g rfl
    have hml := ho.len
    obtain ⟨m, hm'⟩ : ∃ m, m = n - 1 := ⟨_, rfl⟩
    have hnm : (n : Int) - 1 = (m : Int) := by omega
    have hmn : (m : Int) < (n : Int) := by omega
    have hm0 : (0 : Int) ≤ (m : Int) := by omega
    have hmN : m < n := by omega
    obtain ⟨f1, f2, f3⟩ := flatC_get M m (by omega)
    have hp1 : (M.getD m eV).1 = gc L m := by
      have := pcs_get M m (by omega)
      rw [hM] at this
      exact this.symm
    obtain ⟨ai, ci, hv, hsl, _⟩ := own_form (ho.idx m hmN)
    rw [hv] at f3
    rw [hp1] at f1 f2 f3
    have hfl : (flatC M).length = n * 3 := by rw [flatC_len, hml]
    have d1 := (ho.row.cellAt (m * 3) (by omega)).trans f1
    have d2 := (ho.row.cellAt (m * 3 + 1) (by omega)).trans f2
    have d3 := (ho.row.cellAt (m * 3 + 2) (by omega)).trans f3
    have fz := fun k => ho.row.frozenAt k
    have hlp : lastP L = gc L m := by show gc L (L.length - 1) = _; rw [HN.out, hm']
    have hgp := (HG.out.ps m (by rw [HN.out]; exact hmN)).1
    have hsz := hgp.1
    have hla := HG.out.logAt HN.out HS.out HT.out
    have hfl2 := hla.fl
    rw [← hm'] at hfl2
    obtain ⟨p, hp⟩ : ∃ p, p = gc L m := ⟨_, rfl⟩
    rw [← hp] at d1 d2 d3 hlp hsz hfl2
    obtain ⟨f, s, x⟩ := p
    simp only at d1 d2 d3 hsz hfl2
    obtain ⟨xl, hxl⟩ : ∃ xl, xl = x.length := ⟨_, rfl⟩
    rw [← hxl] at d3
    have e1 := Go.Lib.cell?_alloc_some (.cells #[.slice (some ⟨g, 0, none⟩) n n, .int .i64 B] 25 (0, 0)) d1
    have e2 := Go.Lib.cell?_alloc_some (.cells #[.slice (some ⟨g, 0, none⟩) n n, .int .i64 B] 25 (0, 0)) d2
    have e3 := Go.Lib.cell?_alloc_some (.cells #[.slice (some ⟨g, 0, none⟩) n n, .int .i64 B] 25 (0, 0)) d3
    have HXL := hide hxl
    have HO := hide ho
    have HM := hide hM
    have HLP := hide hlp
    have HV := hide hv
    have HP1 := hide hp1
    have HP := hide hp
    clear hxl ho hM hlp hv hp1 hp f1 f2 f3 hfl hsl hla hgp hb2 fz hm' hml
    go_upto_region 6 with fail
    generalize hW : (w1.alloc (.cells #[.slice (some ⟨g, 0, none⟩) n n, .int .i64 B] 25 (0, 0))).alloc (.cells #[.int .i64 f, .string s, .slice ai xl ci] 50 (0, 0)) = W
    have BW : Below w1.heap.size w1 W := by rw [← hW]; exact ((Below.refl _ _).alloc (Nat.le_refl _) _).alloc (by simp) _
    have GO : W.heap[w1.heap.size]? = some (.cells #[.slice (some ⟨g, 0, none⟩) n n, .int .i64 B] 25 (0, 0)) := by rw [← hW]; exact blk_firstT _ _ _
    have GP : W.heap[w1.heap.size + 1]? = some (.cells #[.int .i64 f, .string s, .slice ai xl ci] 50 (0, 0)) := by rw [← hW]; exact blk_secondT _ _ _
    obtain ⟨o0, o1, o2, o3⟩ := blkp GO
    obtain ⟨p0, p1, p2, _, _, _⟩ := blk3 GP
    have G3 : W.heap[w.heap.size + 1]? = some (.cells #[.slice none 0 0, .int .i64 0] 25 (0, 0)) := (BW.block (w.heap.size + 1) (Array.getElem?_eq_some_iff.1 G2.out).1).trans G2.out
    have B3 := hide (B2.out.trans (BW.mono B2.out.size))
    have HO3 := hide (HO.out.below BW)
    have HG3 := hide G3
    have HGO := hide GO
    have hwW : w1.heap.size + 1 < W.heap.size := (Array.getElem?_eq_some_iff.1 GP).1
    clear z0 z1 z2 z3
    obtain ⟨z0, z1, z2, z3⟩ := blkp G3
    clear hW BW GO GP G3 d1 d2 d3 e1 e2 e3 k0 k1
    by_cases hb0 : b < 0
    · have hno : ¬ TearOk L B b := fun h => by have := h.2.1.1; omega
      obtain ⟨rfl, rfl, rfl, rfl⟩ := HR.out.no hno
      clear hno
      go_wp2
      refine bodyPost_ret (v := .tuple #[.agg #[.slice none 0 0, .int .i64 0], .int .i64 0, .bool false]) (by simp [results, Tryd.f23, go_sem, z0, z1]) rfl (retG_none ((B3.out.setCell (p := ⟨_, _, none⟩) (Nat.le_succ _) _).setCell (p := ⟨_, _, none⟩) (Nat.le_succ _) _))
    by_cases hb1 : (s.size : Int) < b
    · have hno : ¬ TearOk L B b := fun h => by have := h.2.1.2; rw [HLP.out] at this; simp only at this; omega
      obtain ⟨rfl, rfl, rfl, rfl⟩ := HR.out.no hno
      clear hno
      go_wp2
      refine bodyPost_ret (v := .tuple #[.agg #[.slice none 0 0, .int .i64 0], .int .i64 0, .bool false]) (by simp [results, Tryd.f23, go_sem, z0, z1]) rfl (retG_none ((B3.out.setCell (p := ⟨_, _, none⟩) (Nat.le_succ _) _).setCell (p := ⟨_, _, none⟩) (Nat.le_succ _) _))
    obtain ⟨bn, rfl⟩ : ∃ bn : Nat, b = (bn : Int) := ⟨b.toNat, by omega⟩
    obtain ⟨k, hk⟩ : ∃ k : Nat, k = s.size - bn := ⟨_, rfl⟩
    have hks : k ≤ s.size := by omega
    have hsub : (s.size : Int) - (bn : Int) = (k : Int) := by omega
    have hwr : IntKind.i64.wrap ((s.size : Int) - (bn : Int)) = (k : Int) := by rw [hsub]; exact wrap6 (by omega) (by omega)
    have q := fun w => slice_to w s k hks
    obtain ⟨y, hy⟩ : ∃ y, y = s.extract 0 k := ⟨_, rfl⟩
    rw [← hy] at q
    have HY : Hid (tornS (lastP L) (bn : Int) = y) := by
      show tornS (lastP L) (bn : Int) = y
      rw [HLP.out, hy, hk]
      rfl
    have hys : y.size ≤ 60 := by rw [hy]; simp; omega
    clear hy hk
    go_upto_region 9 with fail
    obtain ⟨N, hN⟩ : ∃ N, N = (ix y).length := ⟨_, rfl⟩
    obtain ⟨Y, hY⟩ : ∃ Y, Y = y.extract 0 (wh y) := ⟨_, rfl⟩
    have C3 := hide (fun wx (hb : Below W.heap.size W wx) => (wholePiece_any f y wx (by omega) (HT.out.below (B3.out.trans (hb.mono B3.out.size)))).mono (R' := fun e w2 => ∃ a2 q2, e = .returned (.agg #[.int .i64 f, .string Y, .slice a2 N q2]) ∧ (w2.ownsRow W.heap.size 3 1 (.slice a2 N q2) N ((ix y).map (Value.int .i64)) ∧ Below W.heap.size W w2) ∧ (∃ u0 u1 u2, w2.cell? ⟨g, m * 3, none⟩ = some u0 ∧ w2.cell? ⟨g, m * 3 + 1, none⟩ = some u1 ∧ w2.cell? ⟨g, m * 3 + 2, none⟩ = some u2) ∧ (w2.frozen? ⟨g, m * 3, none⟩ = false ∧ w2.frozen? ⟨g, m * 3 + 1, none⟩ = false ∧ w2.frozen? ⟨g, m * 3 + 2, none⟩ = false) ∧ (w2.cell? ⟨w1.heap.size, 0, none⟩ = some (.slice (some ⟨g, 0, none⟩) n n) ∧ w2.cell? ⟨w1.heap.size, 1, none⟩ = some (.int .i64 B))) (by
      rintro e w2 ⟨v2, rfl, ho2, hb2⟩
      have hb3 := hb.trans (hb2.mono hb.size)
      rw [← hN] at ho2
      obtain ⟨a2, q2, rfl, _, _⟩ := own_form ho2
      rw [← hY]
      have R := (HO3.out.below hb3).row
      have hfl : (flatC M).length = n * 3 := by rw [flatC_len, HO3.out.len]
      refine ⟨a2, q2, rfl, ⟨own_baseC ho2 hb.size, hb3⟩, ⟨_, _, _, (R.cellAt (m * 3) (by omega)).trans (List.getElem?_eq_getElem (by omega)), (R.cellAt (m * 3 + 1) (by omega)).trans (List.getElem?_eq_getElem (by omega)), (R.cellAt (m * 3 + 2) (by omega)).trans (List.getElem?_eq_getElem (by omega))⟩, ⟨R.frozenAt _, R.frozenAt _, R.frozenAt _⟩, ?_⟩
      obtain ⟨o0, o1, _, _⟩ := blkp ((hb3.block w1.heap.size (Array.getElem?_eq_some_iff.1 HGO.out).1).trans HGO.out)
      exact ⟨o0, o1⟩))
    have HNN := hide hN
    have HYY := hide hY
    have hw1W : w0.heap.size ≤ W.heap.size := by omega
    have PP : Hid (∀ w2 a2 q2, (w2.ownsRow W.heap.size 3 1 (.slice a2 N q2) N ((ix y).map (Value.int .i64)) ∧ Below W.heap.size W w2) → TornAt w w0.heap.size w1.heap.size g n m B M ⟨f, Y, ix y⟩ (((w2.setCell ⟨g, m * 3, none⟩ (.int .i64 f)).setCell ⟨g, m * 3 + 1, none⟩ (.string Y)).setCell ⟨g, m * 3 + 2, none⟩ (.slice a2 N q2))) := by
      intro w2 a2 q2 h
      have P := (HO3.out.below h.2).put m hmN ⟨f, Y, ix y⟩ (.slice a2 N q2) (by show w2.ownsRow _ _ _ _ (ix y).length _; rw [← HNN.out]; exact own_baseC h.1 hw1W) (fun i hi _ bb hbb e => by
        have h1 := (own_ltC h.1 bb hbb).1
        have h2 := (own_ltC (HO3.out.idx i hi) bb e).2
        omega)
      have hs2 := h.2.size
      exact ⟨⟨_, P.1⟩, (B3.out.trans (h.2.mono B3.out.size)).grown P.2 (Nat.le_trans B3.out.size hs2) (fun q hq => by cases hq; omega), (P.2.block (w.heap.size + 1) (by omega) (by simp; omega)).trans ((h.2.block _ (by omega)).trans HG3.out), (P.2.block w1.heap.size (by omega) (by simp; omega)).trans ((h.2.block _ (by omega)).trans HGO.out)⟩
    clear hN hY
    go_cut [8] (fun t wx => t = .int .i64 m ∧ TornAt w w0.heap.size w1.heap.size g n m B M ⟨f, Y, ix y⟩ wx)
    case first =>
      go_region_with (go_at_call 36; refine (C3.out _ ?_).mono ?_; (first | exact Below.refl _ _ | exact (Below.refl _ _).drew | exact ((Below.refl _ _).drew).drew); rintro e w2 ⟨a2, q2, rfl, ho2, ⟨u0, u1, u2, c0, c1, c2⟩, ⟨c3, c4, c5⟩, c6, c7⟩)
      all_goals (
        go_wp2_with fail
        go_meet
        case rel => exact ⟨rfl, PP.out _ _ _ ho2⟩)
    case rest =>
      obtain ⟨rfl, hta⟩ := hcut
      have hwh := wh_le y
      have hYs : Y.size = wh y := by rw [HYY.out]; simp; omega
      have hcY : cnt Y = cnt y := by rw [HYY.out]; exact whole_cnt y
      have hlen2 : (L.set m ⟨f, Y, ix y⟩).length = n := by simpa using HN.out
      obtain ⟨u, hown⟩ := hta.own
      have hpc : pcs (M.set m (⟨f, Y, ix y⟩, u)) = L.set m ⟨f, Y, ix y⟩ := by rw [← HM.out]; show List.map _ _ = _; rw [List.map_set]
      have hgm : gc (L.set m ⟨f, Y, ix y⟩) m = ⟨f, Y, ix y⟩ := gc_set_self L m _ (by rw [HN.out]; exact hmN)
      have hnm1 : n - 1 = m := by omega
      have hla : LogAt wc (some ⟨g, 0, none⟩) (L.set m ⟨f, Y, ix y⟩) n := by
        refine ⟨hlen2, hn1, hn20, by rw [← hpc]; exact hown.sl, ?_, ?_, ?_, HT.out.below hta.bel⟩
        · by_cases hm2 : m = 0
          · subst hm2
            rw [hgm]
            have h0 := HG.out.f0
            have h1 := HG.out.f1
            rw [← HP.out] at h0 h1
            exact ⟨h0, h1⟩
          · rw [show gc (L.set m ⟨f, Y, ix y⟩) 0 = gc L 0 from gc_set_ne L m 0 _ (by omega)]
            exact ⟨HG.out.f0, HG.out.f1⟩
        · rw [hnm1, hgm]; exact hfl2
        · rw [hnm1, hgm]; show Y.size ≤ 60; omega
      have hE : lastEnd (L.set m ⟨f, Y, ix y⟩) n = f + (cnt y : Int) := by
        unfold lastEnd
        rw [hnm1, hgm]
        show f + (cnt Y : Int) = _
        rw [hcY]
      have C4 := hide (fun wx (hb : Below wc.heap.size wc wx) => endOf_any (some ⟨g, 0, none⟩) (L.set m ⟨f, Y, ix y⟩) n n B wx (hla.below hb))
      rw [hE] at C4
      have hok : TearOk L B (bn : Int) ↔ B ≤ f + (cnt y : Int) := by
        unfold TearOk
        rw [HY.out, HLP.out]
        constructor
        · intro h
          exact h.2.2
        · intro h
          exact ⟨HG.out, ⟨by omega, by show (bn : Int) ≤ (s.size : Int); omega⟩, h⟩
      have HOK := hide hok
      have HTA := hide hta
      have HOW := hide hown
      have HPC := hide hpc
      have HL2 := hide hlen2
      have hcl := cnt_le y
      obtain ⟨E, hEE⟩ : ∃ E, E = f + (cnt y : Int) := ⟨_, rfl⟩
      rw [← hEE] at C4 HOK
      obtain ⟨z0, z1, z2, z3⟩ := blkp hta.res
      obtain ⟨o0, o1, _, _⟩ := blkp hta.out
      clear hta hown hpc hlen2 hla hok hE hgm hcY hEE
      go_upto_region 10 with fail
      go_region_held3 (fun wx => (wx.cell? ⟨w1.heap.size, 0, none⟩ = some (.slice (some ⟨g, 0, none⟩) n n) ∧ wx.cell? ⟨w1.heap.size, 1, none⟩ = some (.int .i64 B) ∧ wx.cell? ⟨w.heap.size + 1, 0, none⟩ = some (.slice none 0 0)) ∧ Below wc.heap.size wc wx) (first | exact ⟨⟨o0, o1, z0⟩, (Below.refl _ _).drew⟩ | exact keep3 (by assumption) (by assumption) (Nat.le_refl _)) ((go_at_call 37; refine (C4.out _ (by first | exact And.right (by assumption) | exact (Below.refl _ _).drew | exact Below.refl _ _)).mono ?_; rintro e w5 ⟨rfl, hb⟩))
      rename_i hHeld
      have hb5 := hHeld.2
      have HB5 := hide (HTA.out.bel.trans (hb5.mono HTA.out.bel.size))
      have HOW5 := hide (HOW.out.below hb5)
      clear z0 z1 z2 z3 o0 o1
      obtain ⟨z0, z1, z2, z3⟩ := blkp ((hb5.block (w.heap.size + 1) (Array.getElem?_eq_some_iff.1 HTA.out.res).1).trans HTA.out.res)
      obtain ⟨o0, o1, _, _⟩ := blkp ((hb5.block w1.heap.size (Array.getElem?_eq_some_iff.1 HTA.out.out).1).trans HTA.out.out)
      have hfl : (flatC (M.set m (⟨f, Y, ix y⟩, u))).length = n * 3 := by rw [flatC_len, HOW5.out.len]
      obtain ⟨_, f2, _⟩ := flatC_get (M.set m (⟨f, Y, ix y⟩, u)) m (by rw [HOW5.out.len]; exact hmN)
      have r2 := (HOW5.out.row.cellAt (m * 3 + 1) (by omega)).trans f2
      rw [getD_set_self M m _ (by rw [HO3.out.len]; exact hmN)] at r2
      simp only at r2
      have hnr : ¬ g = w.heap.size + 1 := by omega
      have hnr2 : ¬ w1.heap.size = w.heap.size + 1 := by omega
      clear hHeld hb5 hfl f2 C1 C2 C3 C4 PP
      by_cases hBE : E < B
      · obtain ⟨rfl, rfl, rfl, rfl⟩ := HR.out.no (fun h => by have := HOK.out.1 h; omega)
        go_wp2
        refine bodyPost_ret (v := .tuple #[.agg #[.slice none 0 0, .int .i64 0], .int .i64 0, .bool false]) (by simp [results, Tryd.f23, go_sem, z0, z1]) rfl (retG_none ((HB5.out.setCell (p := ⟨_, _, none⟩) (Nat.le_succ _) _).setCell (p := ⟨_, _, none⟩) (Nat.le_succ _) _))
      · obtain ⟨rfl, hL', rfl, hleft⟩ := HR.out.yes (HOK.out.2 (by omega))
        have hL2 : L' = L.set m ⟨f, Y, ix y⟩ := by
          rw [hL', HN.out, hnm1]
          unfold tornP
          rw [HY.out, HLP.out, ← HYY.out]
        rw [HY.out] at hleft
        have hwr2 : IntKind.i64.wrap ((y.size : Int) - (Y.size : Int)) = left := by rw [hleft, hYs]; exact wrap6 (by omega) (by omega)
        have HL' := hide hL2
        have HLL := hide hleft
        clear hL' hL2 hleft
        go_upto_region 12 with fail
        go_region
        go_wp2
        have hlt0 : w.heap.size + 1 < w0.heap.size := hz1
        refine bodyPost_ret (v := .tuple #[.agg #[.slice (some ⟨g, 0, none⟩) n n, .int .i64 B'], .int .i64 ((y.size : Int) - (wh y : Int)), .bool true]) (by simp [results, Tryd.f23, go_sem, z0, z1]) rfl ⟨some ⟨g, 0, none⟩, n, by rw [HL'.out, HL2.out, HLL.out], M.set m (⟨f, Y, ix y⟩, u), by rw [HL'.out]; exact HPC.out, ?_, ?_⟩
        · rw [HL'.out, HL2.out]
          exact (((HOW5.out.setC ⟨_, _, none⟩ _ hlt0).setC ⟨_, _, none⟩ _ hlt0).base (by omega)).below (Below.refl _ _).drew
        · exact ((HB5.out.setCell (p := ⟨_, _, none⟩) (Nat.le_succ _) _).setCell (p := ⟨_, _, none⟩) (Nat.le_succ _) _).drew
end Go.Proofs.YtbcljhafdpnjbabDoor.L6

namespace Go.Proofs.YtbcljhafdpnjbabDoor.L6
open Go.RowKit L1
set_option linter.unusedVariables false

/-- The copy with its last piece torn. -/
structure TornAtS (w : World) (base go g n m c : Nat) (B : Int) (M : List PV) (p : Pc) (wx : World) : Prop where
  own : ∃ u, OwC wx base (.slice (some ⟨g, 0, none⟩) n c) n (M.set m (p, u))
  bel : Below w.heap.size w wx
  res : wx.heap[w.heap.size + 1]? = some (.cells #[.slice none 0 0, .int .i64 0] 25 (0, 0))
  out : wx.heap[go]? = some (.cells #[.slice (some ⟨g, 0, none⟩) n c, .int .i64 B] 25 (0, 0))

open Classical in
set_option maxRecDepth 100000 in
set_option maxHeartbeats 4000000 in
theorem specTear_any (a : Option Addr) (L : List Pc) (n cap : Nat) (B b : Int) (w : World) (hn : L.length = n) (hm : n ≤ 9223372036854775807) (hs : SlC w a L) (hst : SzC L) (L' : List Pc) (B' left : Int) (ok : Bool) (hr : TearIs L B b L' B' left ok) :
    Calls Tryd.prog 24 #[.agg #[.slice a n cap, .int .i64 B], .int .i64 b] w (RetG w L' B' left ok) := by
  obtain ⟨bk, hbk⟩ : ∃ bk : Bool, bk = true ↔ GoodG L B := ⟨decide (GoodG L B), by simp⟩
  have C1 := hide (fun wx (hb : Below w.heap.size w wx) => specGoodLog_any a L n cap B wx hn hm (hs.below hb) hst bk hbk)
  cases bk with
  | false =>
    obtain ⟨rfl, rfl, rfl, rfl⟩ := hr.no (fun h => absurd (hbk.2 h.1) (by simp))
    clear hr hs hn hst hbk
    go_enter Tryd.func24, Tryd.ntmps24
    go_wp2_with fail
    refine (C1.out _ (((Below.refl _ _).alloc (Nat.le_refl _) _).alloc (by simp) _)).mono ?_
    rintro e w1 ⟨rfl, hb1⟩
    obtain ⟨z0, z1, z2, z3⟩ := blkp ((hb1.block (w.heap.size + 1) (by simp)).trans (blk_secondT w _ _))
    have B1 := hide ((((Below.refl w.heap.size w).alloc (Nat.le_refl _) (.cells #[.slice a n cap, .int .i64 B] 25 (0, 0))).alloc (by simp) (.cells #[.slice none 0 0, .int .i64 0] 25 (0, 0))).trans (hb1.mono (by simp; omega)))
    clear hb1
    go_wp2
    refine bodyPost_ret (v := .tuple #[.agg #[.slice none 0 0, .int .i64 0], .int .i64 0, .bool false]) (by simp [results, Tryd.f24, go_sem, z0, z1]) rfl (retG_none ((B1.out.setCell (p := ⟨_, _, none⟩) (Nat.le_succ _) _).setCell (p := ⟨_, _, none⟩) (Nat.le_succ _) _))
  | true =>
    have hg := hbk.1 rfl
    have hn1 : 1 ≤ n := by have := hg.one; omega
    have hn20 : n ≤ 20 := by have := hg.many; omega
    have C2 := hide (fun wx (hb : Below w.heap.size w wx) => l6Own_any a L n cap B wx hn hn20 (hs.below hb) (hg.small hn))
    have HS := hide hs
    have HN := hide hn
    have HG := hide hg
    have HR := hide hr
    clear hs hn hg hst hbk hr
    go_enter Tryd.func24, Tryd.ntmps24
    go_wp2_with fail
    refine (C1.out _ (((Below.refl _ _).alloc (Nat.le_refl _) _).alloc (by simp) _)).mono ?_
    rintro e w0 ⟨rfl, hb1⟩
    have G1 : Hid (w0.heap[w.heap.size + 1]? = some (.cells #[.slice none 0 0, .int .i64 0] 25 (0, 0))) := (hb1.block (w.heap.size + 1) (by simp)).trans (blk_secondT w _ _)
    have B1 := hide ((((Below.refl w.heap.size w).alloc (Nat.le_refl _) (.cells #[.slice a n cap, .int .i64 B] 25 (0, 0))).alloc (by simp) (.cells #[.slice none 0 0, .int .i64 0] 25 (0, 0))).trans (hb1.mono (by simp; omega)))
    obtain ⟨k0, k1, _, _⟩ := blkp ((hb1.block w.heap.size (by simp only [World.size_alloc]; omega)).trans (blk_firstT w _ _))
    clear hb1
    go_wp2_with fail
    refine (C2.out _ (by first | exact B1.out | exact B1.out.alloc B1.out.size _)).mono ?_
    rintro e w1 ⟨a1, cc, rfl, M, hM, ho, hb2⟩
    obtain ⟨g, rfl⟩ : ∃ g, a1 = some ⟨g, 0, none⟩ := by
      rcases ho.row.2 with ⟨hv, h0⟩ | ⟨g, cap, cur, hv, _⟩
      · omega
      · cases hv
        exact ⟨g, rfl⟩
    have B2 := hide (B1.out.trans (hb2.mono B1.out.size))
    have G2 : Hid (w1.heap[w.heap.size + 1]? = some (.cells #[.slice none 0 0, .int .i64 0] 25 (0, 0))) := (hb2.block (w.heap.size + 1) (Array.getElem?_eq_some_iff.1 G1.out).1).trans G1.out
    obtain ⟨z0, z1, z2, z3⟩ := blkp G2.out
    have hz1 : w.heap.size + 1 < w0.heap.size := (Array.getElem?_eq_some_iff.1 G1.out).1
    have hgb := own_ltC ho.row g rfl
    have hml := ho.len
    obtain ⟨m, hm'⟩ : ∃ m, m = n - 1 := ⟨_, rfl⟩
    have hnm : (n : Int) - 1 = (m : Int) := by omega
    have hmn : (m : Int) < (n : Int) := by omega
    have hm0 : (0 : Int) ≤ (m : Int) := by omega
    have hmN : m < n := by omega
    obtain ⟨f1, f2, f3⟩ := flatC_get M m (by omega)
    have hp1 : (M.getD m eV).1 = gc L m := by
      have := pcs_get M m (by omega)
      rw [hM] at this
      exact this.symm
    obtain ⟨ai, ci, hv, hsl, _⟩ := own_form (ho.idx m hmN)
    rw [hv] at f3
    rw [hp1] at f1 f2 f3
    have hfl : (flatC M).length = n * 3 := by rw [flatC_len, hml]
    have d1 := (ho.row.cellAt (m * 3) (by omega)).trans f1
    have d2 := (ho.row.cellAt (m * 3 + 1) (by omega)).trans f2
    have d3 := (ho.row.cellAt (m * 3 + 2) (by omega)).trans f3
    have fz := fun k => ho.row.frozenAt k
    have hlp : lastP L = gc L m := by show gc L (L.length - 1) = _; rw [HN.out, hm']
    have hgp := (HG.out.ps m (by rw [HN.out]; exact hmN)).1
    have hsz := hgp.1
    have hfl2 : 0 ≤ (gc L m).f ∧ (gc L m).f ≤ 1000000 := by
      have hb := atg_bd L m (fun j hj => (HG.out.ps j (by rw [HN.out]; omega)).1)
      have hf0 := HG.out.f0
      have hf1 := HG.out.f1
      rw [(HG.out.ps m (by rw [HN.out]; exact hmN)).2.1]
      omega
    obtain ⟨p, hp⟩ : ∃ p, p = gc L m := ⟨_, rfl⟩
    rw [← hp] at d1 d2 d3 hlp hsz hfl2
    obtain ⟨f, s, x⟩ := p
    simp only at d1 d2 d3 hsz hfl2
    obtain ⟨xl, hxl⟩ : ∃ xl, xl = x.length := ⟨_, rfl⟩
    rw [← hxl] at d3
    have e1 := Go.Lib.cell?_alloc_some (.cells #[.slice (some ⟨g, 0, none⟩) n cc, .int .i64 B] 25 (0, 0)) d1
    have e2 := Go.Lib.cell?_alloc_some (.cells #[.slice (some ⟨g, 0, none⟩) n cc, .int .i64 B] 25 (0, 0)) d2
    have e3 := Go.Lib.cell?_alloc_some (.cells #[.slice (some ⟨g, 0, none⟩) n cc, .int .i64 B] 25 (0, 0)) d3
    have HXL := hide hxl
    have HGP := hide hgp
    have HO := hide ho
    have HM := hide hM
    have HLP := hide hlp
    have HV := hide hv
    have HP1 := hide hp1
    have HP := hide hp
    clear hxl ho hM hlp hv hp1 hp f1 f2 f3 hfl hsl hgp hb2 fz hm' hml
    go_upto_region 6 with fail
    generalize hW : (w1.alloc (.cells #[.slice (some ⟨g, 0, none⟩) n cc, .int .i64 B] 25 (0, 0))).alloc (.cells #[.int .i64 f, .string s, .slice ai xl ci] 50 (0, 0)) = W
    have BW : Below w1.heap.size w1 W := by rw [← hW]; exact ((Below.refl _ _).alloc (Nat.le_refl _) _).alloc (by simp) _
    have GO : W.heap[w1.heap.size]? = some (.cells #[.slice (some ⟨g, 0, none⟩) n cc, .int .i64 B] 25 (0, 0)) := by rw [← hW]; exact blk_firstT _ _ _
    have GP : W.heap[w1.heap.size + 1]? = some (.cells #[.int .i64 f, .string s, .slice ai xl ci] 50 (0, 0)) := by rw [← hW]; exact blk_secondT _ _ _
    obtain ⟨o0, o1, o2, o3⟩ := blkp GO
    obtain ⟨p0, p1, p2, _, _, _⟩ := blk3 GP
    have G3 : W.heap[w.heap.size + 1]? = some (.cells #[.slice none 0 0, .int .i64 0] 25 (0, 0)) := (BW.block (w.heap.size + 1) (Array.getElem?_eq_some_iff.1 G2.out).1).trans G2.out
    have B3 := hide (B2.out.trans (BW.mono B2.out.size))
    have HO3 := hide (HO.out.below BW)
    have HG3 := hide G3
    have HGO := hide GO
    have hwW : w1.heap.size + 1 < W.heap.size := (Array.getElem?_eq_some_iff.1 GP).1
    clear z0 z1 z2 z3
    obtain ⟨z0, z1, z2, z3⟩ := blkp G3
    have HGP2 := hide GP
    clear hW BW GO GP G3 d1 d2 d3 e1 e2 e3 k0 k1
    obtain ⟨bb, hbb⟩ : ∃ bb : Bool, bb = true ↔ 0 ≤ b ∧ b ≤ (s.size : Int) := ⟨decide (0 ≤ b ∧ b ≤ (s.size : Int)), by simp⟩
    have CI := hide (fun w => l1In_any b 0 (s.size : Int) w bb hbb)
    go_wp2_with fail
    refine (CI.out _).mono ?_
    rintro e w2 ⟨rfl, rfl⟩
    by_cases hrg : ¬ (0 ≤ b ∧ b ≤ (s.size : Int))
    · obtain rfl : bb = false := by cases bb with
        | false => rfl
        | true => exact absurd (hbb.1 rfl) hrg
      have hno : ¬ TearOk L B b := fun h => by have := h.2.1; rw [HLP.out] at this; exact hrg this
      obtain ⟨rfl, rfl, rfl, rfl⟩ := HR.out.no hno
      clear hno hrg hbb CI
      go_wp2
      refine bodyPost_ret (v := .tuple #[.agg #[.slice none 0 0, .int .i64 0], .int .i64 0, .bool false]) (by simp [results, Tryd.f24, go_sem, z0, z1]) rfl (retG_none ((B3.out.setCell (p := ⟨_, _, none⟩) (Nat.le_succ _) _).setCell (p := ⟨_, _, none⟩) (Nat.le_succ _) _))
    replace hrg := Classical.not_not.1 hrg
    obtain rfl : bb = true := hbb.2 hrg
    clear hbb CI
    obtain ⟨bn, rfl⟩ : ∃ bn : Nat, b = (bn : Int) := ⟨b.toNat, by omega⟩
    obtain ⟨k, hk⟩ : ∃ k : Nat, k = s.size - bn := ⟨_, rfl⟩
    have hks : k ≤ s.size := by omega
    have hsub : (s.size : Int) - (bn : Int) = (k : Int) := by omega
    have hwr : IntKind.i64.wrap ((s.size : Int) - (bn : Int)) = (k : Int) := by rw [hsub]; exact wrap6 (by omega) (by omega)
    have q := fun w => slice_to w s k hks
    obtain ⟨y, hy⟩ : ∃ y, y = s.extract 0 k := ⟨_, rfl⟩
    rw [← hy] at q
    have HY : Hid (tornS (lastP L) (bn : Int) = y) := by
      show tornS (lastP L) (bn : Int) = y
      rw [HLP.out, hy, hk]
      rfl
    have hys : y.size ≤ 60 := by rw [hy]; simp; omega
    clear hy hk
    have CS := hide (fun w => l6Starts_any y w (by omega))
    have hwh := wh_le y
    obtain ⟨kw, hkw⟩ : ∃ kw, kw = wh y := ⟨_, rfl⟩
    rw [← hkw] at CS hwh
    obtain ⟨Y, hY⟩ : ∃ Y, Y = y.extract 0 kw := ⟨_, rfl⟩
    have q2 := fun w => slice_to w y kw hwh
    rw [← hY] at q2
    have hYs : Y.size = kw := by rw [hY]; simp; omega
    have hcY : cnt Y = cnt y := by rw [hY, hkw]; exact whole_cnt y
    have hxY : ix Y = ix y := by rw [hY, hkw]; exact whole_ix y
    have HYY : Hid (Y = y.extract 0 (wh y)) := by show Y = _; rw [hY, hkw]
    have HKW := hide hkw
    have HCY := hide hcY
    clear hcY hY hkw
    go_wp2_with fail
    refine (CS.out _).mono ?_
    rintro e V ⟨v2, rfl, hos, hbV⟩
    obtain ⟨ast, qst, rfl, _, _⟩ := own_form hos
    have BV := hide (B3.out.trans (hbV.mono B3.out.size))
    have HOV := hide (HO3.out.below hbV)
    have HGR := hide ((hbV.block (w.heap.size + 1) (by omega)).trans HG3.out)
    have HGV := hide ((hbV.block w1.heap.size (by omega)).trans HGO.out)
    have HGQ := hide ((hbV.block (w1.heap.size + 1) (by omega)).trans HGP2.out)
    have hWV := hbV.size
    clear z0 z1 z2 z3 o0 o1 o2 o3 p0 p1 p2 hos hbV
    obtain ⟨z0, z1, z2, z3⟩ := blkp HGR.out
    obtain ⟨o0, o1, o2, o3⟩ := blkp HGV.out
    obtain ⟨p0, p1, p2, _, _, _⟩ := blk3 HGQ.out
    obtain ⟨N, hN⟩ : ∃ N, N = (ix y).length := ⟨_, rfl⟩
    have C3 := hide (fun wx (hb : Below V.heap.size V wx) => (l6Piece_any f Y wx (by omega)).mono (R' := fun e w2 => ∃ a2 q2, e = .returned (.agg #[.int .i64 f, .string Y, .slice a2 N q2]) ∧ (w2.ownsRow V.heap.size 3 1 (.slice a2 N q2) N ((ix y).map (Value.int .i64)) ∧ Below V.heap.size V w2) ∧ (∃ u0 u1 u2, w2.cell? ⟨g, m * 3, none⟩ = some u0 ∧ w2.cell? ⟨g, m * 3 + 1, none⟩ = some u1 ∧ w2.cell? ⟨g, m * 3 + 2, none⟩ = some u2) ∧ (w2.frozen? ⟨g, m * 3, none⟩ = false ∧ w2.frozen? ⟨g, m * 3 + 1, none⟩ = false ∧ w2.frozen? ⟨g, m * 3 + 2, none⟩ = false) ∧ (w2.cell? ⟨w1.heap.size, 0, none⟩ = some (.slice (some ⟨g, 0, none⟩) n cc) ∧ w2.cell? ⟨w1.heap.size, 1, none⟩ = some (.int .i64 B))) (by
      rintro e w2 ⟨v2, rfl, ho2, hb2⟩
      have hb3 := hb.trans (hb2.mono hb.size)
      rw [hxY, ← hN] at ho2
      obtain ⟨a2, q2, rfl, _, _⟩ := own_form ho2
      have R := (HOV.out.below hb3).row
      have hfl : (flatC M).length = n * 3 := by rw [flatC_len, HOV.out.len]
      refine ⟨a2, q2, rfl, ⟨own_baseC ho2 hb.size, hb3⟩, ⟨_, _, _, (R.cellAt (m * 3) (by omega)).trans (List.getElem?_eq_getElem (by omega)), (R.cellAt (m * 3 + 1) (by omega)).trans (List.getElem?_eq_getElem (by omega)), (R.cellAt (m * 3 + 2) (by omega)).trans (List.getElem?_eq_getElem (by omega))⟩, ⟨R.frozenAt _, R.frozenAt _, R.frozenAt _⟩, ?_⟩
      obtain ⟨o0, o1, _, _⟩ := blkp ((hb3.block w1.heap.size (Array.getElem?_eq_some_iff.1 HGV.out).1).trans HGV.out)
      exact ⟨o0, o1⟩))
    have HNN := hide hN
    have hw1V : w0.heap.size ≤ V.heap.size := by omega
    have PP : Hid (∀ w2 a2 q2, (w2.ownsRow V.heap.size 3 1 (.slice a2 N q2) N ((ix y).map (Value.int .i64)) ∧ Below V.heap.size V w2) → TornAtS w w0.heap.size w1.heap.size g n m cc B M ⟨f, Y, ix y⟩ (((w2.setCell ⟨g, m * 3, none⟩ (.int .i64 f)).setCell ⟨g, m * 3 + 1, none⟩ (.string Y)).setCell ⟨g, m * 3 + 2, none⟩ (.slice a2 N q2))) := by
      intro w2 a2 q2 h
      have P := (HOV.out.below h.2).put m hmN ⟨f, Y, ix y⟩ (.slice a2 N q2) (by show w2.ownsRow _ _ _ _ (ix y).length _; rw [← HNN.out]; exact own_baseC h.1 hw1V) (fun i hi _ bb hbb e => by
        have h1 := (own_ltC h.1 bb hbb).1
        have h2 := (own_ltC (HOV.out.idx i hi) bb e).2
        omega)
      have hs2 := h.2.size
      exact ⟨⟨_, P.1⟩, (BV.out.trans (h.2.mono BV.out.size)).grown P.2 (Nat.le_trans BV.out.size hs2) (fun q hq => by cases hq; omega), (P.2.block (w.heap.size + 1) (by omega) (by simp; omega)).trans ((h.2.block _ (by omega)).trans HGR.out), (P.2.block w1.heap.size (by omega) (by simp; omega)).trans ((h.2.block _ (by omega)).trans HGV.out)⟩
    clear hN hxY C1 C2 CS
    go_upto_region 10 with fail
    go_cut [8, 12] (fun t t2 wx => t = .int .i64 m ∧ t2 = .int .i64 kw ∧ TornAtS w w0.heap.size w1.heap.size g n m cc B M ⟨f, Y, ix y⟩ wx)
    case first =>
      go_region_with (go_at_call 56; refine (C3.out _ ?_).mono ?_; (first | exact Below.refl _ _ | exact (Below.refl _ _).drew | exact ((Below.refl _ _).drew).drew); rintro e w2 ⟨a2, q2, rfl, ho2, ⟨u0, u1, u2, c0, c1, c2⟩, ⟨c3, c4, c5⟩, c6, c7⟩)
      all_goals (
        go_wp2_with fail
        go_meet
        case rel => exact ⟨rfl, rfl, PP.out _ _ _ ho2⟩)
    case rest =>
      obtain ⟨rfl, rfl, hta⟩ := hcut
      have hlen2 : (L.set m ⟨f, Y, ix y⟩).length = n := by simpa using HN.out
      obtain ⟨u, hown⟩ := hta.own
      have hpc : pcs (M.set m (⟨f, Y, ix y⟩, u)) = L.set m ⟨f, Y, ix y⟩ := by rw [← HM.out]; show List.map _ _ = _; rw [List.map_set]
      have hgm : gc (L.set m ⟨f, Y, ix y⟩) m = ⟨f, Y, ix y⟩ := gc_set_self L m _ (by rw [HN.out]; exact hmN)
      have hnm1 : n - 1 = m := by omega
      have hsl : SlC wc (some ⟨g, 0, none⟩) (L.set m ⟨f, Y, ix y⟩) := by rw [← hpc]; exact hown.sl
      have htp : tornP (lastP L) (bn : Int) = ⟨f, Y, ix y⟩ := by
        unfold tornP
        rw [HY.out, HLP.out, ← HYY.out]
      have hgd : GoodP (⟨f, Y, ix y⟩ : Pc) := by
        rw [← htp]
        exact tornP_good _ (by show GoodP (gc L (L.length - 1)); rw [HN.out, hnm1]; exact HGP.out)
      have hE : lastEnd (L.set m ⟨f, Y, ix y⟩) n = f + (cnt y : Int) := by
        unfold lastEnd
        rw [hnm1, hgm]
        show f + (cnt Y : Int) = _
        rw [HCY.out]
      have C4 := hide (fun wx (hb : Below wc.heap.size wc wx) => l6End_any (some ⟨g, 0, none⟩) (L.set m ⟨f, Y, ix y⟩) n cc B wx hlen2 (hsl.below hb) hn1 hn20 (by rw [hnm1, hgm]; exact hgd) (by rw [hnm1, hgm]; exact hfl2))
      have hxs : ∀ i, i < n → (gc (L.set m ⟨f, Y, ix y⟩) i).x.length ≤ 60 := fun i hi => by
        by_cases e : i = m
        · subst e
          rw [hgm]
          have h1 := good_cnt hgd
          show (ix y).length ≤ 60
          unfold ix
          rw [ixk_len]
          have h2 : cnt Y ≤ 60 := h1
          rw [HCY.out] at h2
          omega
        · rw [gc_set_ne L m i _ e]
          exact HG.out.small HN.out i hi
      have C5 := hide (fun wx (hb : Below wc.heap.size wc wx) => l6Own_any (some ⟨g, 0, none⟩) (L.set m ⟨f, Y, ix y⟩) n cc B wx hlen2 hn20 (hsl.below hb) hxs)
      rw [hE] at C4
      have hok : TearOk L B (bn : Int) ↔ B ≤ f + (cnt y : Int) := by
        unfold TearOk
        rw [HY.out, HLP.out]
        constructor
        · intro h
          exact h.2.2
        · intro h
          exact ⟨HG.out, ⟨by omega, by show (bn : Int) ≤ (s.size : Int); omega⟩, h⟩
      have HOK := hide hok
      have HTA := hide hta
      have HTP := hide htp
      have HL2 := hide hlen2
      obtain ⟨E, hEE⟩ : ∃ E, E = f + (cnt y : Int) := ⟨_, rfl⟩
      rw [← hEE] at C4 HOK
      clear z0 z1 z2 z3 o0 o1 o2 o3 p0 p1 p2
      obtain ⟨z0, z1, z2, z3⟩ := blkp hta.res
      obtain ⟨o0, o1, _, _⟩ := blkp hta.out
      clear hta hown hpc hlen2 hok hE hgm hEE hsl htp hgd hxs C3 PP
      go_upto_region 11 with fail
      go_region_held3 (fun wx => (wx.cell? ⟨w1.heap.size, 0, none⟩ = some (.slice (some ⟨g, 0, none⟩) n cc) ∧ wx.cell? ⟨w1.heap.size, 1, none⟩ = some (.int .i64 B) ∧ wx.cell? ⟨w.heap.size + 1, 0, none⟩ = some (.slice none 0 0)) ∧ Below wc.heap.size wc wx) (first | exact ⟨⟨o0, o1, z0⟩, (Below.refl _ _).drew⟩ | exact keep3 (by assumption) (by assumption) (Nat.le_refl _)) ((go_at_call 41; refine (C4.out _ (by first | exact And.right (by assumption) | exact (Below.refl _ _).drew | exact Below.refl _ _)).mono ?_; rintro e w5 ⟨rfl, hb⟩))
      rename_i hHeld
      have hb5 := hHeld.2
      have HB5 := hide hb5
      have HB6 := hide (HTA.out.bel.trans (hb5.mono HTA.out.bel.size))
      have HG5 := hide ((hb5.block (w.heap.size + 1) (Array.getElem?_eq_some_iff.1 HTA.out.res).1).trans HTA.out.res)
      clear z0 z1 z2 z3 o0 o1
      obtain ⟨z0, z1, z2, z3⟩ := blkp HG5.out
      obtain ⟨o0, o1, _, _⟩ := blkp ((hb5.block w1.heap.size (Array.getElem?_eq_some_iff.1 HTA.out.out).1).trans HTA.out.out)
      have hz5 : w.heap.size + 1 < w5.heap.size := (Array.getElem?_eq_some_iff.1 HG5.out).1
      clear hHeld hb5 C4
      by_cases hBE : E < B
      · obtain ⟨rfl, rfl, rfl, rfl⟩ := HR.out.no (fun h => by have := HOK.out.1 h; omega)
        go_wp2
        refine bodyPost_ret (v := .tuple #[.agg #[.slice none 0 0, .int .i64 0], .int .i64 0, .bool false]) (by simp [results, Tryd.f24, go_sem, z0, z1]) rfl (retG_none ((HB6.out.setCell (p := ⟨_, _, none⟩) (Nat.le_succ _) _).setCell (p := ⟨_, _, none⟩) (Nat.le_succ _) _))
      · obtain ⟨rfl, hL', rfl, hleft⟩ := HR.out.yes (HOK.out.2 (by omega))
        have hL2 : L' = L.set m ⟨f, Y, ix y⟩ := by rw [hL', HN.out, hnm1, HTP.out]
        rw [HY.out, ← HKW.out] at hleft
        have hwr2 : IntKind.i64.wrap ((y.size : Int) - (kw : Int)) = left := by rw [hleft]; exact wrap6 (by omega) (by omega)
        have HL' := hide hL2
        have HLL := hide hleft
        clear hL' hL2 hleft
        go_wp2_with fail
        refine (C5.out _ HB5.out).mono ?_
        rintro e w6 ⟨a6, c6, rfl, M6, hM6, ho6, hb6⟩
        have BF := hide (HB6.out.trans (hb6.mono HB6.out.size))
        have HO6 := hide ho6
        have HM6 := hide hM6
        clear z0 z1 z2 z3 o0 o1
        obtain ⟨z0, z1, z2, z3⟩ := blkp ((hb6.block (w.heap.size + 1) hz5).trans HG5.out)
        clear hb6 ho6 hM6
        go_wp2
        refine bodyPost_ret (v := .tuple #[.agg #[.slice a6 n c6, .int .i64 B'], .int .i64 left, .bool true]) (by simp [results, Tryd.f24, go_sem, z0, z1]) rfl ⟨a6, c6, by rw [HL'.out, HL2.out], M6, by rw [HL'.out]; exact HM6.out, ?_, ?_⟩
        · rw [HL'.out, HL2.out]
          exact ((HO6.out.setC ⟨_, _, none⟩ _ hz5).setC ⟨_, _, none⟩ _ hz5).base HB6.out.size
        · exact ((BF.out.setCell (p := ⟨_, _, none⟩) (Nat.le_succ _) _).setCell (p := ⟨_, _, none⟩) (Nat.le_succ _) _)
end Go.Proofs.YtbcljhafdpnjbabDoor.L6
