/-
  Contracts of the specification's draws DrawAppendChunk and DrawJoinChunks: each returns, within the bounds told, and turns nothing that was there.
  Contracts: the two iterators of chapter 2 (impl.differences, impl.runningSums) hand out the differences of a list's numbers, or their running sums, one by one, whatever the loop's body does that keeps what lay.
  Contract: impl.collectNumbers takes all that an iterator hands out, in new memory, and true, where each is in -1000000000000..1000000000000; else no list and false.
  Contracts: impl.DeltasOf and impl.SumsOf: of at most 40 numbers in -1000000000000..1000000000000 the differences, or the running sums, in new memory, and true, where all told are in these bounds; else no list and false.
  Contract: impl.samplesOf: the samples that bends and changes tell, in new memory, and true, where they are good; else no list and false.
  The table of the digits' worths. Nothing of the program's text is proved here.
  Contracts: impl.UnZigZag, and impl.GetVarint: of a text and a place the number whose digits stand there, and the place behind.
  Contracts: spec.l1Zag, spec.l1Get (of a text and a place the number whose digits stand there, and the place behind, -1 where there is none), spec.GetVarint.
-/
import Derived.Test.YtapffbbmofhpoaaDoorBundle3
import Derived.Deep.RegionWith
import Derived.Test.YtapffbbmofhpoaaDoorBundle1
import Derived.RangeFuncBox
import Derived.RangeFuncNested
import Derived.RangeFuncBound
import Derived.RangeFuncCalls
import Derived.RangeFuncLeaves
import Derived.Shelf.Abstract
import Derived.Shelf.RegionOpen
import Derived.WalkKit
import Derived.OwnWalkIn
import Derived.TacticsInMore
import Derived.LoopNIn
import Derived.LoopIn
import Derived.Maps.AppendAt
import Derived.Deep.QuietTactic
import Derived.BigQuiet
import Derived.Test.YtapffbbmofhpoaaDoorBundle2
import Derived.Lib.VarintBits
import Derived.Deep.RegionHeld3
namespace Go.Proofs.YtapffbbmofhpoaaDoor.L1
open Go.RowKit
set_option linter.unusedVariables false

theorem blk_newR (w : World) (o : Obj) : (w.alloc o).heap[w.heap.size]? = some o := by
  show (w.heap.push o)[w.heap.size]? = some o
  exact Array.getElem?_push_size
theorem blk2R {w : World} {g : Nat} {a b : Value} {t : TypeId} (h : w.heap[g]? = some (.cells #[a, b] t (0, 0))) :
    w.cell? ⟨g, 0, none⟩ = some a ∧ w.cell? ⟨g, 1, none⟩ = some b ∧ w.frozen? ⟨g, 0, none⟩ = false ∧ w.frozen? ⟨g, 1, none⟩ = false := by
  simp [World.cell?, World.frozen?, h]

set_option maxRecDepth 100000 in
set_option maxHeartbeats 1000000 in
theorem drawAppendChunk_any (a : Option Addr) (n cap : Nat) (w : World) (h : Slb w w.heap.size a n) (hn : n ≤ 1048576) :
    Calls Tryd.prog 54 #[.slice a n cap] w fun e w' => ∃ (u : ByteArray) (x y : Int), e = .returned (.tuple #[.string u, .agg #[.int .i64 x, .int .i64 y]]) ∧ u.size ≤ 488 ∧ 0 ≤ x ∧ x ≤ 50000 ∧ 0 ≤ y ∧ y ≤ 99 ∧ Below w.heap.size w w' := by
  have hb0 := (Below.refl w.heap.size w).alloc (Nat.le_refl _) (.cells #[.int .i64 0, .int .i64 0] 50 (0, 0))
  have HC := hide (cur_new (cap := cap) (w := w.alloc (.cells #[.int .i64 0, .int .i64 0] 50 (0, 0))) (h.below hb0) hn)
  have R0 : Hid ((w.alloc (.cells #[.int .i64 0, .int .i64 0] 50 (0, 0))).heap[w.heap.size]? = some (.cells #[.int .i64 0, .int .i64 0] 50 (0, 0))) := hide (blk_newR _ _)
  have HB0 := hide hb0
  rw [World.size_alloc] at HC
  clear h hb0
  go_enter Tryd.func54, Tryd.ntmps54
  go_wp2_with fail
  refine (chunk_any _ _ _ HC.out (by omega)).mono ?_
  rintro e w1 ⟨u, rfl, hu, hc1, hg1⟩
  have C1 := hide hc1
  have G1 := hide hg1
  have SA := hide (lit_row w1 #[.int .i64 0, .int .i64 50, .int .i64 2000, .int .i64 50000] [0, 50, 2000, 50000] rfl)
  have CA := hide (C1.out.alloc (.cells #[.int .i64 0, .int .i64 50, .int .i64 2000, .int .i64 50000] 3))
  have hlt := C1.out.lt
  clear hc1 hg1 HC
  go_wp2_with fail
  refine (among_any _ _ w1.heap.size 4 4 [0, 50, 2000, 50000] _ CA.out (by omega) rfl (by omega) (by omega) (by omega) SA.out).mono ?_
  rintro e w2 ⟨j, hj, rfl, hc2, hg2⟩
  have hz := (by decide : ∀ j, j < 4 → (0 : Int) ≤ ([0, 50, 2000, 50000] : List Int).getD j 0 ∧ ([0, 50, 2000, 50000] : List Int).getD j 0 ≤ 50000) j hj
  obtain ⟨x, hxe⟩ : ∃ x, x = ([0, 50, 2000, 50000] : List Int).getD j 0 := ⟨_, rfl⟩
  rw [← hxe] at hz ⊢
  have C2 := hide hc2
  have G2 := hide (grown_trans (grown_trans G1.out (grown_alloc w1 (.cells #[.int .i64 0, .int .i64 50, .int .i64 2000, .int .i64 50000] 3) _)) hg2)
  clear hxe hc2 hg2 C1 G1 SA CA hj hlt
  go_wp2_with fail
  refine (pick_any _ _ 100 _ C2.out (by omega) (by omega) (by omega)).mono ?_
  rintro e w3 ⟨y, rfl, hy0, _, hy1, hc3, hg3⟩
  have hy1' := hy1 (by omega)
  have G3 := hide (grown_trans G2.out hg3)
  clear hc3 hg3 hy1 C2 G2
  have hbel : Below (w.heap.size + 1) (w.alloc (.cells #[.int .i64 0, .int .i64 0] 50 (0, 0))) w3 := by
    have := grown_to_below (w := w.alloc (.cells #[.int .i64 0, .int .i64 0] 50 (0, 0))) (by rw [World.size_alloc]; exact G3.out)
    rw [World.size_alloc] at this
    exact this
  obtain ⟨z0, z1, z2, z3⟩ := blk2R ((hbel.block w.heap.size (by omega)).trans R0.out)
  have B3 := hide (HB0.out.trans (hbel.mono (by omega)))
  clear hbel
  go_wp2
  refine bodyPost_ret (v := .tuple #[.string u, .agg #[.int .i64 x, .int .i64 y]]) (by simp [results, Tryd.f54, go_sem, z0, z1]) rfl ⟨u, x, y, rfl, hu, hz.1, hz.2, hy0, by omega, ?_⟩
  exact (B3.out.setCell (p := ⟨_, _, none⟩) (Nat.le_refl _) _).setCell (p := ⟨_, _, none⟩) (Nat.le_refl _) _

/-- Where a call of among finds its row. -/
def JB (w : World) (xs : List Int) (wx : World) : Prop := Below w.heap.size w wx ∧ Sl wx (some ⟨w.heap.size, 0, none⟩) xs
theorem jb_of {w : World} {cs : Array Value} {xs : List Int} (h : cs.toList = xs.map (Value.int .i64)) : JB w xs (w.alloc (.cells cs 3)) := ⟨(Below.refl _ _).alloc (Nat.le_refl _) _, lit_row w cs xs h⟩
theorem jb_drew {w : World} {xs : List Int} {wx : World} (h : JB w xs wx) : JB w xs wx.drew := ⟨h.1.drew, fun i hi => h.2 i hi⟩
theorem jb_ofd {w : World} {cs : Array Value} {xs : List Int} (h : cs.toList = xs.map (Value.int .i64)) : JB w xs (w.drew.alloc (.cells cs 3)) := ⟨(Below.refl w.heap.size w).drew.alloc (Nat.le_refl _) _, lit_row w.drew cs xs h⟩
theorem jb_ofd2 {w : World} {cs : Array Value} {xs : List Int} (h : cs.toList = xs.map (Value.int .i64)) : JB w xs (w.drew.drew.alloc (.cells cs 3)) := ⟨((Below.refl w.heap.size w).drew).drew.alloc (Nat.le_refl _) _, lit_row w.drew.drew cs xs h⟩

/-- spec.EncodeChunk of few samples: a text that is not long. -/
theorem specEncode_few (a : Option Addr) (l : List (Int × Int)) (n cap : Nat) (w : World) (hn : l.length = n) (hs : Sl2 w a l) (hn2 : n ≤ 41) :
    Calls Tryd.prog 36 #[.slice a n cap] w fun e w' => ∃ (u : ByteArray) (ok : Bool), e = .returned (.tuple #[.string u, .bool ok]) ∧ u.size ≤ 486 ∧ Below w.heap.size w w' := by
  by_cases hg : GoodS l
  · refine (specEncode_yes a l n cap w hn hs hg).mono ?_
    rintro e w' ⟨rfl, hb'⟩
    refine ⟨_, _, rfl, ?_, hb'⟩
    rw [strOfNums_size]
    have h1 := cat_len (nums l)
    have h2 := nums_len l
    have := hg.1
    omega
  · refine (specEncode_no a l n cap w hn hs (by omega) hg).mono ?_
    rintro e w' ⟨rfl, hb'⟩
    exact ⟨_, _, rfl, by show 0 ≤ 486; omega, hb'⟩

/-- Samples, not too great, of which some have been put on. -/
def PutOn (l : List (Int × Int)) (k : Nat) : Prop := ∀ j, k ≤ j → j < l.length → -2000000000 ≤ (l.getD j (0, 0)).1 ∧ (l.getD j (0, 0)).1 ≤ 2000000000
/-- Where the loop of DrawJoinChunks stands. -/
structure JAt (w : World) (b B1 B2 : Nat) (va vb : Value) (la : List (Int × Int)) (nb k N : Nat) (wr : World) : Prop where
  cur : Cur wr b (N + 2 * k)
  own : ∃ l : List (Int × Int), l.length = nb ∧ PutOn l k ∧ wr.ownsRow B2 50 2 vb nb (flat2 l)
  oth : wr.ownsRow B1 50 2 va la.length (flat2 la)
  bel : Below w.heap.size w wr
  sz : B2 ≤ wr.heap.size
theorem cell_setR {w : World} {B g nb cap : Nat} {l : List (Int × Int)} (h : w.ownsRow B 50 2 (.slice (some ⟨g, 0, none⟩) nb cap) nb (flat2 l)) (k : Nat) (hk : k < nb) (hl : l.length = nb) (x : Int) :
    (w.setCell ⟨g, k * 2, none⟩ (.int .i64 x)).ownsRow B 50 2 (.slice (some ⟨g, 0, none⟩) nb cap) nb (flat2 (l.set k (x, (l.getD k (0, 0)).2))) ∧ w.grownBy (w.setCell ⟨g, k * 2, none⟩ (.int .i64 x)) (some g) := by
  have h1 := h.stored (k * 2) (.int .i64 x)
  refine ⟨?_, h1.2⟩
  rw [flat2_setD]
  have e : ((flat2 l).set (k * 2) (.int .i64 x)).set (k * 2 + 1) (.int .i64 (l.getD k (0, 0)).2) = (flat2 l).set (k * 2) (.int .i64 x) := by
    apply List.ext_getElem?
    intro j
    by_cases ej : j = k * 2 + 1
    · subst ej
      have hlen : (flat2 l).length = l.length * 2 := flat2_len l
      rw [List.getElem?_set_self (by simp; omega), List.getElem?_set_ne (by omega)]
      exact ((flat2_get l k (by omega)).2).symm
    · rw [List.getElem?_set_ne (by omega)]
  show World.ownsRow _ _ _ _ _ _ (((flat2 l).set (k * 2) (.int .i64 x)).set (k * 2 + 1) (.int .i64 (l.getD k (0, 0)).2))
  rw [e]
  exact h1.1
theorem own_keptR {w w' : World} {base c n : Nat} {t : TypeId} {v : Value} {xs : List Value} {r : Option Nat} (h : w.ownsRow base t c v n xs) (hg : w.grownBy w' r) (hne : ∀ g, v.ownBlock = some g → r ≠ some g) : w'.ownsRow base t c v n xs := by
  refine ⟨h.1, ?_⟩
  rcases h.2 with h0 | ⟨g, cap, cur, hv, hb, hh, rest⟩
  · exact .inl h0
  · refine .inr ⟨g, cap, cur, hv, hb, ?_, rest⟩
    rw [hg.block g (Array.getElem?_eq_some_iff.1 hh).1 (fun e => hne g (by rw [hv]; rfl) e.symm)]
    exact hh
theorem JAt.step {w wr w2 : World} {b B1 B2 g cb : Nat} {va : Value} {la l : List (Int × Int)} {nb k N : Nat} {z : Int} (h : JAt w b B1 B2 va (.slice (some ⟨g, 0, none⟩) nb cb) la nb k N wr) (hl : l.length = nb) (hp : PutOn l k) (ho : wr.ownsRow B2 50 2 (.slice (some ⟨g, 0, none⟩) nb cb) nb (flat2 l)) (hk : k < nb) (hbw : b = w.heap.size) (h1 : b < B1) (h2 : b < B2) (hva : ∀ q, va.ownBlock = some q → q < B2) (hc : Cur w2 b (N + 2 * k + 2)) (hg : wr.grownBy w2 (some b)) :
    (w2.cell? ⟨g, k * 2, none⟩ = some (.int .i64 (l.getD k (0, 0)).1) ∧ w2.frozen? ⟨g, k * 2, none⟩ = false) ∧ JAt w b B1 B2 va (.slice (some ⟨g, 0, none⟩) nb cb) la nb (k + 1) N (w2.setCell ⟨g, k * 2, none⟩ (.int .i64 ((l.getD k (0, 0)).1 + z))) := by
  have hgB : B2 ≤ g := (ho.lt g rfl).1
  have o2 := own_grownG ho hg h2
  have a2 := own_grownG h.oth hg h1
  have hcl := o2.cellAt (k * 2) (by omega)
  have hfr := o2.frozenAt (k * 2)
  rw [(flat2_get l k (by omega)).1] at hcl
  have st := cell_setR o2 k hk hl ((l.getD k (0, 0)).1 + z)
  refine ⟨⟨hcl, hfr⟩, ?_, ⟨l.set k ((l.getD k (0, 0)).1 + z, (l.getD k (0, 0)).2), by simpa using hl, ?_, st.1⟩, own_keptR a2 st.2 (fun q hq e => ?_), ?_, ?_⟩
  · have : Cur (w2.setCell ⟨g, k * 2, none⟩ (.int .i64 ((l.getD k (0, 0)).1 + z))) b (N + 2 * k + 2) := hc.kept fun q hq => Below.heap_setCell _ _ _ _ (by show q ≠ g; omega)
    exact this.mono (by omega)
  · intro j hj hjl
    have hjl' : j < l.length := by simpa using hjl
    have e : (l.set k ((l.getD k (0, 0)).1 + z, (l.getD k (0, 0)).2)).getD j (0, 0) = l.getD j (0, 0) := by simp [List.getD, List.getElem?_set_ne (show k ≠ j by omega)]
    rw [e]
    exact hp j (by omega) hjl'
  · cases e
    have := hva g hq
    omega
  · have hb2 : Below w.heap.size w w2 := by
      refine ⟨hg.os.trans h.bel.os, hg.tape.trans h.bel.tape, hg.output.trans h.bel.output, Nat.le_trans h.bel.size hg.size, fun q hq => (hg.block q (Nat.lt_of_lt_of_le hq h.bel.size) (fun e => ?_)).trans (h.bel.block q hq)⟩
      cases e
      omega
    exact hb2.setCell (p := ⟨g, k * 2, none⟩) (by show w.heap.size ≤ g; omega) _
  · have e : (w2.setCell ⟨g, k * 2, none⟩ (.int .i64 ((l.getD k (0, 0)).1 + z))).heap.size = w2.heap.size := by simp
    rw [e]
    exact Nat.le_trans h.sz hg.size

set_option maxRecDepth 100000 in
set_option maxHeartbeats 4000000 in
theorem drawJoinChunks_any (a : Option Addr) (n cap : Nat) (w : World) (h : Slb w w.heap.size a n) (hn : n ≤ 1048576) :
    Calls Tryd.prog 56 #[.slice a n cap] w fun e w' => ∃ (u t : ByteArray), e = .returned (.tuple #[.string u, .string t]) ∧ u.size ≤ 486 ∧ t.size ≤ 486 ∧ Below w.heap.size w w' := by
  have HC := hide (cur_new (cap := cap) h hn)
  have HB0 := hide ((Below.refl w.heap.size w).alloc (Nat.le_refl _) (.cells #[.slice a n cap, .int .i64 0, .int .u64 0] 79))
  clear h
  go_enter Tryd.func56, Tryd.ntmps56
  go_wp2_with fail
  refine (samples_any _ _ _ HC.out (by omega)).mono ?_
  rintro e w1 ⟨va, rfl, ⟨la, hla, _, hoa⟩, hc1, hg1⟩
  rw [World.size_alloc] at hoa
  have hsz1 : w.heap.size + 1 ≤ w1.heap.size := by have := hg1.size; simpa using this
  have HG1 := hide hg1
  have C1 := hide hc1
  obtain ⟨aa, ca, rfl⟩ := (show ∃ aa ca, va = .slice aa la.length ca by obtain ⟨x, y, e, _⟩ := own_formS hoa; exact ⟨x, y, e⟩)
  have OA := hide hoa
  have HVA := hide (fun q hq => (hoa.lt q hq).2)
  clear hoa hc1 hg1 HC
  go_wp2_with fail
  refine (samples_any _ _ _ C1.out (by omega)).mono ?_
  rintro e w2 ⟨vb, rfl, ⟨lb, hlb, hbd, hob⟩, hc2, hg2⟩
  obtain ⟨nb, hnb⟩ : ∃ nb, nb = lb.length := ⟨_, rfl⟩
  rw [← hnb] at hob hlb
  obtain ⟨ab, cb, rfl⟩ := (show ∃ ab cb, vb = .slice ab nb cb by obtain ⟨x, y, e, _⟩ := own_formS hob; exact ⟨x, y, e⟩)
  have OB := hide hob
  have C2 := hide hc2
  have JJ : Hid (JAt w w.heap.size (w.heap.size + 1) w1.heap.size (.slice aa la.length ca) (.slice ab nb cb) la nb 0 2000 w2) := by
    refine ⟨?_, ⟨lb, hnb.symm, fun j _ hj => ?_, hob⟩, own_grownG OA.out hg2 (by omega), ?_, hg2.size⟩
    · exact hc2.mono (by omega)
    · have := hbd (lb.getD j (0, 0)) (by simp only [List.getD, List.getElem?_eq_getElem hj, Option.getD_some]; exact List.getElem_mem hj)
      exact this.1
    · have hg02 := grown_trans HG1.out hg2
      exact grown_to_below hg02
  clear hob hc2 hg2 hbd hnb C1 HG1 C2 OB OA HB0
  go_wp2_with fail
  go_loopw [21] (fun i wr => ∃ k : Nat, k ≤ nb ∧ i = .int .i64 k ∧ JAt w w.heap.size (w.heap.size + 1) w1.heap.size (.slice aa la.length ca) (.slice ab nb cb) la nb k 2000 wr) (fun i _ => nb - (intOf i).toNat)
  case atStart => exact ⟨0, Nat.zero_le _, rfl, JJ.out⟩
  case round =>
    obtain ⟨k, hk, rfl, hat⟩ := hrel
    obtain ⟨l, hl, hp, ho⟩ := hat.own
    by_cases hlt : k < nb
    · have hltI : (k : Int) < (nb : Int) := by omega
      have hk0 : (0 : Int) ≤ (k : Int) := by omega
      obtain ⟨g, rfl⟩ : ∃ g, ab = some ⟨g, 0, none⟩ := by
        rcases ho.2 with ⟨_, h0⟩ | ⟨g, cap2, cur, hv, _⟩
        · omega
        · cases hv; exact ⟨g, rfl⟩
      have hpk := hp k (Nat.le_refl _) (by omega)
      have CC : Hid (∀ wx, JB wr [0, 20000, 20000] wx → Calls Tryd.prog 89 #[.pointer (some ⟨w.heap.size, 0, none⟩), .slice (some ⟨wr.heap.size, 0, none⟩) 3 3] wx fun e w2 => ∃ z : Int, e = .returned (.int .i64 z) ∧ (0 ≤ z ∧ z ≤ 20000) ∧ (w2.cell? ⟨g, k * 2, none⟩ = some (.int .i64 (l.getD k (0, 0)).1) ∧ w2.frozen? ⟨g, k * 2, none⟩ = false) ∧ JAt w w.heap.size (w.heap.size + 1) w1.heap.size (.slice aa la.length ca) (.slice (some ⟨g, 0, none⟩) nb cb) la nb (k + 1) 2000 (w2.setCell ⟨g, k * 2, none⟩ (.int .i64 ((l.getD k (0, 0)).1 + z)))) := fun wx hj => by
        refine (among_any w.heap.size (2000 + 2 * k) wr.heap.size 3 3 [0, 20000, 20000] wx (hat.cur.below hj.1) (by omega) rfl (by omega) (by omega) (by have := hat.sz; omega) hj.2).mono ?_
        rintro e w2 ⟨j, hj', rfl, hc', hg'⟩
        have hz := (by decide : ∀ j, j < 3 → (0 : Int) ≤ ([0, 20000, 20000] : List Int).getD j 0 ∧ ([0, 20000, 20000] : List Int).getD j 0 ≤ 20000) j hj'
        have st := hat.step (z := ([0, 20000, 20000] : List Int).getD j 0) hl hp ho hlt rfl (by omega) (by omega) HVA.out hc' (grown_trans (below_grown hj.1) hg')
        exact ⟨_, rfl, hz, st.1, st.2⟩
      have hcl := ho.cellAt (k * 2) (by omega)
      have hfr := ho.frozenAt (k * 2)
      rw [(flat2_get l k (by omega)).1] at hcl
      obtain ⟨x, hx⟩ : ∃ x, x = (l.getD k (0, 0)).1 := ⟨_, rfl⟩
      rw [← hx] at hcl CC hpk
      have hal : ∀ ob, (wr.alloc ob).cell? ⟨g, k * 2, none⟩ = some (.int .i64 x) := fun ob => Go.Lib.cell?_alloc_some ob hcl
      obtain ⟨hx0, hx1⟩ := hpk
      clear hx hat hp ho hl
      go_upto_region 7 with fail
      go_region_with (go_at_call 89; refine (CC.out _ ?_).mono ?_; (first | exact jb_of rfl | exact jb_drew (jb_of rfl) | exact jb_ofd rfl | exact jb_drew (jb_ofd rfl) | exact jb_ofd2 rfl | exact jb_drew (jb_drew (jb_of rfl))); rintro e w3 ⟨z, rfl, ⟨hz0, hz1⟩, ⟨c0, c1⟩, P⟩)
      all_goals (
        go_wp2
        go_roundw
        case rel => exact ⟨k + 1, by omega, by go_num, P⟩
        case measure => simp [intOf]; omega)
    · obtain rfl : k = nb := by omega
      have hltI : ¬ (k : Int) < (k : Int) := by omega
      have SA := hide (show Sl2 wr aa la by obtain ⟨x, y, e, s, _⟩ := own_formS hat.oth; cases e; exact s)
      have SB := hide (show Sl2 wr ab l by obtain ⟨x, y, e, s, _⟩ := own_formS ho; cases e; exact s)
      have HB := hide hat.bel
      have HL := hide hl
      clear hat hp ho hl
      go_wp2_with fail
      refine (specEncode_few aa la la.length ca _ rfl SA.out (by omega)).mono ?_
      rintro e w3 ⟨u, ok, rfl, hu, hb3⟩
      have SB3 := hide (SB.out.below hb3)
      have HB3 := hide (HB.out.trans (hb3.mono HB.out.size))
      clear hb3 SA SB HB
      go_wp2_with fail
      refine (specEncode_few ab l k cb _ HL.out SB3.out (by omega)).mono ?_
      rintro e w4 ⟨t, ok2, rfl, ht, hb4⟩
      have HB4 := hide (HB3.out.trans (hb4.mono HB3.out.size))
      clear hb4 SB3 HB3
      go_wp2
      go_ret2
      exact ⟨u, t, rfl, hu, ht, HB4.out⟩
end Go.Proofs.YtapffbbmofhpoaaDoor.L1

namespace Go.Proofs.YtapffbbmofhpoaaDoor.L1
open Go.RowKit Go.Shelf
attribute [local go_sem] Oper.semAt_some
set_option linter.unusedVariables false

theorem pre_of_take (l : List Int) (k : Nat) : l.take k <+: l := List.take_prefix k l

set_option maxRecDepth 100000 in
set_option maxHeartbeats 2000000 in
theorem diff1_in (F : Fence) (n : Nat) (hf : F.fn 136) (hro : F.round = none) (hn : 1 ≤ n) (l Bs n₀ len cap : Nat) (a : Option Addr) (xs : List Int) (hlen : xs.length = len) (h40 : len ≤ 40) (hok : OkL xs) (J Jx : List Int → World → Prop)
    (hY : ∀ pre x W, J pre W → pre.length < len → YieldAt F (n - 1) Tryd.prog l #[.int .i64 x] W fun e W' =>
      (e = .returned (.bool true) ∧ J (pre ++ [x]) W' ∧ Below n₀ W W') ∨ (e = .returned (.bool false) ∧ Jx (pre ++ [x]) W'))
    (W : World) (hBs : W.cell? ⟨Bs, 0, none⟩ = some (.slice a len cap)) (hs : ∀ i, i < len → ∃ b off, a = some ⟨b, off, none⟩ ∧ b < n₀ ∧ W.cell? ⟨b, off + i, none⟩ = some (.int .i64 (xs.getD i 0))) (h0 : J [] W) :
    CallsIn F n Tryd.prog 136 #[.func (.yield l) #[] #[], .pointer (some ⟨Bs, 0, none⟩)] W fun e W' => (∃ v, e = .returned v) ∧
      ((∃ ys, ys = dl 0 xs ∧ J ys W') ∨ (∃ pre, pre <+: dl 0 xs ∧ Jx pre W')) := by
  have HK := hide hok
  have HL := hide hlen
  have HS := hide hs
  clear hok hlen hs
  refine callsIn_of_wp Tryd.func136 rfl hf ?_ hro
  simp only [Tryd.ntmps136, List.size_toArray, List.length_cons, List.length_nil, Nat.reduceAdd, Nat.reduceSub, Array.replicate_succ, Array.replicate_zero, List.push_toArray, List.append_toArray, List.nil_append, List.cons_append]
  gi_wp2
  gi_loopw [3, 8] (fun p i wr => ∃ k : Nat, k ≤ len ∧ i = .int .i64 k ∧ p = .int .i64 ((0 :: xs).getD k 0) ∧ J ((dl 0 xs).take k) wr ∧ Below n₀ W wr)
    (fun _ i _ => len - (intOf i).toNat)
  case atStart => exact ⟨0, Nat.zero_le _, rfl, rfl, h0, Below.refl _ _⟩
  case round =>
    obtain ⟨k, hk, rfl, rfl, hJs, hnx⟩ := hrel
    by_cases hlt : k < len
    · obtain ⟨b, off, rfl, hb, hc0⟩ := HS.out k hlt
      have hc : wr.cell? ⟨b, off + k, none⟩ = some (.int .i64 (xs.getD k 0)) := (hnx.cell (p := ⟨b, off + k, none⟩) hb).trans hc0
      have hd := dl_get xs 0 k (by rw [HL.out]; exact hlt)
      have hx1 := HK.out k (by rw [HL.out]; exact hlt)
      have hx2 : -1000000000000 ≤ (0 :: xs).getD k 0 ∧ (0 :: xs).getD k 0 ≤ 1000000000000 := by
        cases k with
        | zero => simp
        | succ k => rw [List.getD_cons_succ]; exact HK.out k (by rw [HL.out]; omega)
      have hnext : (0 :: xs).getD (k + 1) 0 = xs.getD k 0 := List.getD_cons_succ
      have htk := ltake_snoc (dl 0 xs) k (by rw [dl_len, HL.out]; exact hlt)
      have hpl : ((dl 0 xs).take k).length < len := by simp [dl_len]; have := HL.out; omega
      have hpre := pre_of_take (dl 0 xs) (k + 1)
      obtain ⟨x, hx⟩ : ∃ x, x = xs.getD k 0 := ⟨_, rfl⟩
      obtain ⟨p, hp⟩ : ∃ p, p = (0 :: xs).getD k 0 := ⟨_, rfl⟩
      rw [← hx] at hc hd hx1 hnext
      rw [← hp] at hd hx2 ⊢
      rw [hd] at htk
      rw [htk] at hpre
      have HTK := hide htk
      have HPRE := hide hpre
      have HNX := hide hnext
      obtain ⟨fn, tmps, assign, body, hy, hR⟩ := hY _ (x - p) wr hJs hpl
      have hltI : (k : Int) < (len : Int) := by omega
      obtain ⟨hx1a, hx1b⟩ := hx1
      obtain ⟨hx2a, hx2b⟩ := hx2
      clear hd htk hnext hpre hc0 hx hp
      gi_wp2
      refine hR.mono ?_
      rintro e W3 (⟨rfl, hJ3, hk3⟩ | ⟨rfl, hJx3⟩)
      · gi_wp2
        go_roundw
        case rel => exact ⟨k + 1, by omega, by simp, by rw [HNX.out], by rw [HTK.out]; exact hJ3, hnx.trans hk3⟩
        case measure => simp [intOf]; omega
      · gi_wp2
        refine bodyPost_ret (results_none rfl _ _ _) rfl ?_
        exact ⟨⟨_, rfl⟩, .inr ⟨_, HPRE.out, hJx3⟩⟩
    · obtain rfl : k = len := by omega
      have e : (dl 0 xs).take k = dl 0 xs := List.take_of_length_le (by rw [dl_len, HL.out]; omega)
      rw [e] at hJs
      have hltI : ¬ (k : Int) < (k : Int) := by omega
      clear e
      gi_wp2
      go_end0
      exact ⟨⟨_, rfl⟩, .inl hJs⟩
set_option maxRecDepth 100000 in
set_option maxHeartbeats 2000000 in
theorem sums1_in (F : Fence) (n : Nat) (hf : F.fn 137) (hro : F.round = none) (hn : 1 ≤ n) (l Bs n₀ len cap : Nat) (a : Option Addr) (xs : List Int) (hlen : xs.length = len) (h40 : len ≤ 40) (hok : OkL xs) (J Jx : List Int → World → Prop)
    (hY : ∀ pre x W, J pre W → pre.length < len → YieldAt F (n - 1) Tryd.prog l #[.int .i64 x] W fun e W' =>
      (e = .returned (.bool true) ∧ J (pre ++ [x]) W' ∧ Below n₀ W W') ∨ (e = .returned (.bool false) ∧ Jx (pre ++ [x]) W'))
    (W : World) (hBs : W.cell? ⟨Bs, 0, none⟩ = some (.slice a len cap)) (hs : ∀ i, i < len → ∃ b off, a = some ⟨b, off, none⟩ ∧ b < n₀ ∧ W.cell? ⟨b, off + i, none⟩ = some (.int .i64 (xs.getD i 0))) (h0 : J [] W) :
    CallsIn F n Tryd.prog 137 #[.func (.yield l) #[] #[], .pointer (some ⟨Bs, 0, none⟩)] W fun e W' => (∃ v, e = .returned v) ∧
      ((∃ ys, ys = sm 0 xs ∧ J ys W') ∨ (∃ pre, pre <+: sm 0 xs ∧ Jx pre W')) := by
  have HK := hide hok
  have HL := hide hlen
  have HS := hide hs
  clear hok hlen hs
  refine callsIn_of_wp Tryd.func137 rfl hf ?_ hro
  simp only [Tryd.ntmps137, List.size_toArray, List.length_cons, List.length_nil, Nat.reduceAdd, Nat.reduceSub, Array.replicate_succ, Array.replicate_zero, List.push_toArray, List.append_toArray, List.nil_append, List.cons_append]
  gi_wp2
  gi_loopw [3, 8] (fun p i wr => ∃ k : Nat, k ≤ len ∧ i = .int .i64 k ∧ p = .int .i64 ((0 :: sm 0 xs).getD k 0) ∧ J ((sm 0 xs).take k) wr ∧ Below n₀ W wr)
    (fun _ i _ => len - (intOf i).toNat)
  case atStart => exact ⟨0, Nat.zero_le _, rfl, rfl, h0, Below.refl _ _⟩
  case round =>
    obtain ⟨k, hk, rfl, rfl, hJs, hnx⟩ := hrel
    by_cases hlt : k < len
    · obtain ⟨b, off, rfl, hb, hc0⟩ := HS.out k hlt
      have hc : wr.cell? ⟨b, off + k, none⟩ = some (.int .i64 (xs.getD k 0)) := (hnx.cell (p := ⟨b, off + k, none⟩) hb).trans hc0
      have hd := sm_get xs 0 k (by rw [HL.out]; exact hlt)
      have hx1 := HK.out k (by rw [HL.out]; exact hlt)
      have hx2 := sm_bd HK.out k (by rw [HL.out]; omega)
      have hnext : (0 :: sm 0 xs).getD (k + 1) 0 = (sm 0 xs).getD k 0 := List.getD_cons_succ
      have htk := ltake_snoc (sm 0 xs) k (by rw [sm_len, HL.out]; exact hlt)
      have hpl : ((sm 0 xs).take k).length < len := by simp [sm_len]; have := HL.out; omega
      have hpre := pre_of_take (sm 0 xs) (k + 1)
      obtain ⟨x, hx⟩ : ∃ x, x = xs.getD k 0 := ⟨_, rfl⟩
      obtain ⟨p, hp⟩ : ∃ p, p = (0 :: sm 0 xs).getD k 0 := ⟨_, rfl⟩
      rw [← hx] at hc hd hx1
      rw [← hp] at hd hx2 ⊢
      rw [hd] at htk hnext
      rw [htk] at hpre
      have HTK := hide htk
      have HPRE := hide hpre
      have HNX := hide hnext
      obtain ⟨fn, tmps, assign, body, hy, hR⟩ := hY _ (p + x) wr hJs hpl
      have hltI : (k : Int) < (len : Int) := by omega
      obtain ⟨hx1a, hx1b⟩ := hx1
      obtain ⟨hx2a, hx2b⟩ := hx2
      clear hd htk hnext hpre hc0 hx hp
      gi_wp2
      refine hR.mono ?_
      rintro e W3 (⟨rfl, hJ3, hk3⟩ | ⟨rfl, hJx3⟩)
      · gi_wp2
        go_roundw
        case rel => exact ⟨k + 1, by omega, by simp, by rw [HNX.out], by rw [HTK.out]; exact hJ3, hnx.trans hk3⟩
        case measure => simp [intOf]; omega
      · gi_wp2
        refine bodyPost_ret (results_none rfl _ _ _) rfl ?_
        exact ⟨⟨_, rfl⟩, .inr ⟨_, HPRE.out, hJx3⟩⟩
    · obtain rfl : k = len := by omega
      have e : (sm 0 xs).take k = sm 0 xs := List.take_of_length_le (by rw [sm_len, HL.out]; omega)
      rw [e] at hJs
      have hltI : ¬ (k : Int) < (k : Int) := by omega
      clear e
      gi_wp2
      go_end0
      exact ⟨⟨_, rfl⟩, .inl hJs⟩

set_option maxHeartbeats 1000000 in
theorem differences_in (F : Fence) (n : Nat) (hf : F.fn 107) (hro : F.round = none) (a : Option Addr) (len cap : Nat) (w : World) :
    CallsIn F n Tryd.prog 107 #[.slice a len cap] w fun e w' => e = .returned (.func (.func 136) #[] #[.pointer (some ⟨w.heap.size, 0, none⟩)]) ∧ w' = w.alloc (.cells #[.slice a len cap] 32) := by
  refine callsIn_of_wp Tryd.func107 rfl hf ?_ hro
  simp only [Tryd.ntmps107, List.size_toArray, List.length_cons, List.length_nil, Nat.reduceAdd, Nat.reduceSub, Array.replicate_succ, Array.replicate_zero, List.push_toArray, List.append_toArray, List.nil_append, List.cons_append]
  gi_wp2
  go_ret
  exact ⟨rfl, rfl⟩

theorem differences_stops (F : Fence) (n : Nat) (hf : F.fn 136) (hro : F.round = none) (hn : 1 ≤ n) (Bs n₀ len cap : Nat) (a : Option Addr) (xs : List Int) (hlen : xs.length = len) (h40 : len ≤ 40) (hok : OkL xs) (w : World) (hBs : Bs < w.heap.size) (hn₀ : n₀ ≤ w.heap.size)
    (hc : w.cell? ⟨Bs, 0, none⟩ = some (.slice a len cap)) (hs : ∀ i, i < len → ∃ b off, a = some ⟨b, off, none⟩ ∧ b < n₀ ∧ w.cell? ⟨b, off + i, none⟩ = some (.int .i64 (xs.getD i 0))) :
    SeqStopsK F n Tryd.prog 136 #[.pointer (some ⟨Bs, 0, none⟩)] (fun x : Int => #[Value.int .i64 x]) (Below n₀) (fun ys => ys = dl 0 xs) (fun pre => pre <+: dl 0 xs) len w := fun l J Jx W hW _ _ hY h0 =>
  diff1_in F n hf hro hn l Bs n₀ len cap a xs hlen h40 hok J Jx hY W ((hW.cell (p := ⟨Bs, 0, none⟩) hBs).trans hc) (fun i hi => by
    obtain ⟨b, off, ha, hb, h⟩ := hs i hi
    exact ⟨b, off, ha, hb, (hW.cell (p := ⟨b, off + i, none⟩) (Nat.lt_of_lt_of_le hb hn₀)).trans h⟩) h0

set_option maxHeartbeats 1000000 in
theorem runningSums_in (F : Fence) (n : Nat) (hf : F.fn 110) (hro : F.round = none) (a : Option Addr) (len cap : Nat) (w : World) :
    CallsIn F n Tryd.prog 110 #[.slice a len cap] w fun e w' => e = .returned (.func (.func 137) #[] #[.pointer (some ⟨w.heap.size, 0, none⟩)]) ∧ w' = w.alloc (.cells #[.slice a len cap] 32) := by
  refine callsIn_of_wp Tryd.func110 rfl hf ?_ hro
  simp only [Tryd.ntmps110, List.size_toArray, List.length_cons, List.length_nil, Nat.reduceAdd, Nat.reduceSub, Array.replicate_succ, Array.replicate_zero, List.push_toArray, List.append_toArray, List.nil_append, List.cons_append]
  gi_wp2
  go_ret
  exact ⟨rfl, rfl⟩

theorem runningSums_stops (F : Fence) (n : Nat) (hf : F.fn 137) (hro : F.round = none) (hn : 1 ≤ n) (Bs n₀ len cap : Nat) (a : Option Addr) (xs : List Int) (hlen : xs.length = len) (h40 : len ≤ 40) (hok : OkL xs) (w : World) (hBs : Bs < w.heap.size) (hn₀ : n₀ ≤ w.heap.size)
    (hc : w.cell? ⟨Bs, 0, none⟩ = some (.slice a len cap)) (hs : ∀ i, i < len → ∃ b off, a = some ⟨b, off, none⟩ ∧ b < n₀ ∧ w.cell? ⟨b, off + i, none⟩ = some (.int .i64 (xs.getD i 0))) :
    SeqStopsK F n Tryd.prog 137 #[.pointer (some ⟨Bs, 0, none⟩)] (fun x : Int => #[Value.int .i64 x]) (Below n₀) (fun ys => ys = sm 0 xs) (fun pre => pre <+: sm 0 xs) len w := fun l J Jx W hW _ _ hY h0 =>
  sums1_in F n hf hro hn l Bs n₀ len cap a xs hlen h40 hok J Jx hY W ((hW.cell (p := ⟨Bs, 0, none⟩) hBs).trans hc) (fun i hi => by
    obtain ⟨b, off, ha, hb, h⟩ := hs i hi
    exact ⟨b, off, ha, hb, (hW.cell (p := ⟨b, off + i, none⟩) (Nat.lt_of_lt_of_le hb hn₀)).trans h⟩) h0
end Go.Proofs.YtapffbbmofhpoaaDoor.L1

namespace Go.Proofs.YtapffbbmofhpoaaDoor.L1
open Go.RowKit Go.Shelf
attribute [local go_sem] Oper.semAt_some
set_option linter.unusedVariables false

open Classical in
/-- The list itself, where all its numbers are within their bounds. -/
noncomputable def okRes (xs : List Int) : Option (List Int) := if OkL xs then some xs else none

set_option maxRecDepth 100000 in
set_option maxHeartbeats 400000 in
theorem isNumber_yes (F : Fence) (n : Nat) (hf : F.fn 77) (hro : F.round = none) (x : Int) (w : World) (h1 : -1000000000000 ≤ x) (h2 : x ≤ 1000000000000) :
    CallsIn F n Tryd.prog 77 #[.int .i64 x] w fun e w' => e = .returned (.bool true) ∧ w = w' := by
  refine callsIn_of_wp Tryd.func77 rfl hf ?_ hro
  simp only [Tryd.ntmps77, List.size_toArray, List.length_cons, List.length_nil, Nat.reduceAdd, Nat.reduceSub, Array.replicate_succ, Array.replicate_zero, List.push_toArray, List.append_toArray, List.nil_append, List.cons_append]
  gi_wp2
  go_ret
  exact ⟨rfl, rfl⟩
set_option maxRecDepth 100000 in
set_option maxHeartbeats 400000 in
theorem isNumber_no (F : Fence) (n : Nat) (hf : F.fn 77) (hro : F.round = none) (x : Int) (w : World) (h : ¬ (-1000000000000 ≤ x ∧ x ≤ 1000000000000)) :
    CallsIn F n Tryd.prog 77 #[.int .i64 x] w fun e w' => e = .returned (.bool false) ∧ w = w' := by
  by_cases h1 : -1000000000000 ≤ x
  · have h2 : ¬ x ≤ 1000000000000 := fun h2 => h ⟨h1, h2⟩
    clear h
    refine callsIn_of_wp Tryd.func77 rfl hf ?_ hro
    simp only [Tryd.ntmps77, List.size_toArray, List.length_cons, List.length_nil, Nat.reduceAdd, Nat.reduceSub, Array.replicate_succ, Array.replicate_zero, List.push_toArray, List.append_toArray, List.nil_append, List.cons_append]
    gi_wp2
    go_ret
    exact ⟨rfl, rfl⟩
  · clear h
    refine callsIn_of_wp Tryd.func77 rfl hf ?_ hro
    simp only [Tryd.ntmps77, List.size_toArray, List.length_cons, List.length_nil, Nat.reduceAdd, Nat.reduceSub, Array.replicate_succ, Array.replicate_zero, List.push_toArray, List.append_toArray, List.nil_append, List.cons_append]
    gi_wp2
    go_ret
    exact ⟨rfl, rfl⟩

theorem okL_snoc {pre : List Int} {x : Int} (h : OkL pre) (hx : -1000000000000 ≤ x ∧ x ≤ 1000000000000) : OkL (pre ++ [x]) :=
  okL_of_mem (fun y hy => by
    simp only [List.mem_append, List.mem_singleton] at hy
    rcases hy with hy | rfl
    · exact okL_mem' h y hy
    · exact hx)
theorem okL_not {pre xs : List Int} {x : Int} (hp : pre ++ [x] <+: xs) (hx : ¬ (-1000000000000 ≤ x ∧ x ≤ 1000000000000)) : ¬ OkL xs := fun h =>
  hx (okL_mem' h x (hp.subset (by simp)))

set_option maxRecDepth 100000 in
set_option maxHeartbeats 2000000 in
theorem collect_in (F : Fence) (n : Nat) (hf : F.fn 106) (hfi : F.fn 77) (hro : F.round = none) (hn : 3 ≤ n) {gf : Nat} {lb : Array Value} (hFg : F.fn gf)
    (eg : ∀ args w, (callFunc gf args).run Tryd.prog w = .ok (.enter gf args) w) (xs : List Int) (h40 : xs.length ≤ 40) (w : World)
    (hseq : ∀ w0, Below w.heap.size w w0 → SeqStopsK F (n - 1) Tryd.prog gf lb (fun x : Int => #[Value.int .i64 x]) (Below w.heap.size) (fun ys => ys = xs) (fun pre => pre <+: xs) xs.length w0) :
    CallsIn F n Tryd.prog 106 #[.func (.func gf) #[] lb] w fun e W' => RetL w (okRes xs) e W' := by
  have h1 : 1 ≤ n := by omega
  obtain ⟨i0, hi, hz0, hz1, hz2⟩ := info_parts info_int
  refine callsIn_of_wp_marks Tryd.func106 rfl hf ?_ hro
  simp only [Tryd.ntmps106, List.size_toArray, List.length_cons, List.length_nil, Nat.reduceAdd, Nat.reduceSub, Array.replicate_succ, Array.replicate_zero, List.push_toArray, List.append_toArray, List.nil_append, List.cons_append]
  gi_wp2
  have bA := Boxed.new w 32 (.slice none 0 0)
  have bB := Boxed.new (w.alloc (.cells #[.slice none 0 0] 32)) 4 (.bool false)
  have bC := Boxed.new ((w.alloc (.cells #[.slice none 0 0] 32)).alloc (.cells #[.bool false] 4)) 32 (.slice none 0 0)
  simp only [World.size_alloc] at bB bC
  have hB0 : Below w.heap.size w (((w.alloc (.cells #[.slice none 0 0] 32)).alloc (.cells #[.bool false] 4)).alloc (.cells #[.slice none 0 0] 32)) := (((Below.refl _ w).alloc (Nat.le_refl _) _).alloc (by simp) _).alloc (by simp; omega) _
  refine wpIn_rangeFunc_ownG hro h1 (gf := gf) (lb := lb) rfl hFg eg
    (hseq _ hB0) belowK_t (belowK_b (by simp; omega)) (Below.refl _ _) (fun _ => rfl)
    (fun pre W => (OkL pre ∧ Boxed W w.heap.size 32 (.slice none 0 0) ∧ Boxed W (w.heap.size + 1) 4 (.bool false) ∧ ∃ v, Boxed W (w.heap.size + 1 + 1) 32 v ∧ W.ownsRow w.heap.size 3 1 v pre.length (pre.map (Value.int .i64)) ∧ True) ∧ Below w.heap.size w W)
    (fun c pre W => (c = .ret ∧ (∃ p x, pre = p ++ [x] ∧ ¬ (-1000000000000 ≤ x ∧ x ≤ 1000000000000)) ∧ Boxed W w.heap.size 32 (.slice none 0 0) ∧ Boxed W (w.heap.size + 1) 4 (.bool false)) ∧ Below w.heap.size w W)
    (OwnFrom.and (OwnFrom.and (ownFrom_pure _ OkL) (OwnFrom.and (Own.from (boxed_own _ _ (fun _ => .slice none 0 0)) _) (OwnFrom.and (Own.from (boxed_own _ _ (fun _ => .bool false)) _) (Own.from (holdsRow_own w.heap.size (w.heap.size + 1 + 1) 32 3 1 (fun pre : List Int => pre.length) (fun pre => pre.map (Value.int .i64)) (fun _ _ => True)) _)))) (ownFrom_below (Nat.le_refl _) (by simp; omega)))
    (fun c => OwnFrom.and (OwnFrom.and (ownFrom_pure _ (fun _ => c = .ret)) (OwnFrom.and (ownFrom_pure _ (fun pre : List Int => ∃ p x, pre = p ++ [x] ∧ ¬ (-1000000000000 ≤ x ∧ x ≤ 1000000000000))) (OwnFrom.and (Own.from (boxed_own _ _ (fun _ => .slice none 0 0)) _) (Own.from (boxed_own _ _ (fun _ => .bool false)) _)))) (ownFrom_below (Nat.le_refl _) (by simp; omega)))
    ⟨⟨okL_nil, (bA.alloc _).alloc _, bB.alloc _, _, bC, World.ownsRow_nil _ _ _ _, trivial⟩, hB0⟩
    (fun x => { tmps := #[.func (.func gf) #[] lb, undef, .pointer (some ⟨w.heap.size, 0, none⟩), .pointer (some ⟨w.heap.size + 1, 0, none⟩), .pointer (some ⟨w.heap.size + 1 + 1, 0, none⟩), .int .i64 x, .func (.func gf) #[] lb, .int .i64 x, undef, undef, undef, undef, undef, undef, undef, undef], defers := [] }) ?assign ?body ?done ?stop
  case assign =>
    intro l x W K hK
    gi_wp2
    exact hK
  case body =>
    rintro l pre x W ⟨⟨hp, hA, hB, v, hv, hrow, _⟩, hBel⟩ hlt
    have hd : 1 ≤ n - 1 - 1 := by omega
    have hsz := hBel.size
    by_cases hin : -1000000000000 ≤ x ∧ x ≤ 1000000000000
    · have hc := hv.cell
      have HP := hide (okL_snoc hp hin)
      have HIN := hide hin
      have HA := hide hA
      have HB := hide hB
      clear hp hin hA hB
      gi_wp2_with (first
        | (gi_at_call 77; refine (CallsIn.inRound l (isNumber_yes F _ hfi hro x _ HIN.out.1 HIN.out.2)).mono ?_; rintro e w' ⟨rfl, rfl⟩)
        | (gi_at_builtin; refine wpListIn_append_own _ rfl _ _ 32 rfl w.heap.size 3 i0 (.int .i64 0) 1 8 Tryd.underlying32 hi hz0 hz1 hz2 rfl (by decide) _ _ _ rfl (hrow.alloc _) ⟨W.heap.size, 0, none⟩ 1 1 [.int .i64 x] rfl rfl (cell_one_new _ _ _) (by simp [Value.oneCell']) (by unfold maxLen; omega) (by omega) (by simp; omega) ?_; intro v' w1 hown' hgrow _; obtain ⟨g', cap', rfl⟩ := ownsRow_succ hown'; obtain ⟨hv1, hv2, hr2, hk2, hb2⟩ := hv.appended (by decide) hrow hBel.size (by omega) hown' hgrow; have hc1 := hv1.cell; have hf1 := hv1.frozen; have hA2 := ((HA.out.alloc _).kept hgrow (HA.out.not_row (by decide) hrow)).other (B' := w.heap.size + 1 + 1) (by omega) (.slice (some ⟨g', 0, none⟩) (pre.length + 1) cap'); have hB2 := ((HB.out.alloc _).kept hgrow (HB.out.not_row (by decide) hrow)).other (B' := w.heap.size + 1 + 1) (by omega) (.slice (some ⟨g', 0, none⟩) (pre.length + 1) cap')))
      exact ⟨hk2.from _, hb2, ⟨HP.out, hA2, hB2, _, hv2, by simpa using hr2, trivial⟩, hBel.trans hb2⟩
    · have hcA := hA.cell
      have hfA := hA.frozen
      have hcB := hB.cell
      have hfB := hB.frozen
      have HIN := hide hin
      clear hin
      gi_wp2_with (gi_at_call 77; refine (CallsIn.inRound l (isNumber_no F _ hfi hro x _ HIN.out)).mono ?_; rintro e w' ⟨rfl, rfl⟩)
      refine ⟨((KeepsOthers.setCell _ _ _).trans (KeepsOthers.setCell _ _ _)).from _, ⟨rfl, ⟨pre, x, rfl, HIN.out⟩, (hA.set _).other (by omega) _, (hB.other (by omega) _).set _⟩, (hBel.setCell (p := ⟨w.heap.size, 0, none⟩) (Nat.le_refl _) _).setCell (p := ⟨w.heap.size + 1, 0, none⟩) (by simp) _⟩
  case done =>
    rintro D ys W hD rfl ⟨⟨hp, hA, hB, v, hv, hrow, _⟩, hBel⟩ hK
    obtain ⟨va, vcap, rfl, _, _⟩ := own_form hrow
    have hc := hv.cell
    have hcA := hA.cell
    have hfA := hA.frozen
    have hB1 := hB.other (B' := w.heap.size) (by omega) (.slice va ys.length vcap)
    have hcB := hB1.cell
    have hfB := hB1.frozen
    have hA2 := (hA.set (.slice va ys.length vcap)).other (B' := w.heap.size + 1) (by omega) (.bool true)
    have hB2 := hB1.set (.bool true)
    have hr2 := (hrow.kept (grownBy_setCell' W w.heap.size (.slice va ys.length vcap)) (.inr (hA.not_row (by decide) hrow).symm))
    have hr3 := (hr2.kept (grownBy_setCell' _ (w.heap.size + 1) (.bool true)) (.inr (hB1.not_row (by decide) hr2).symm))
    have hK2 := ((KeepsOthers.setCell W ⟨w.heap.size, 0, none⟩ (.slice va ys.length vcap)).trans (KeepsOthers.setCell _ ⟨w.heap.size + 1, 0, none⟩ (.bool true))).same D _ hK rfl
    have hb2 := (hBel.setCell (p := ⟨w.heap.size, 0, none⟩) (Nat.le_refl _) (.slice va ys.length vcap)).setCell (p := ⟨w.heap.size + 1, 0, none⟩) (by simp) (.bool true)
    gi_wp2
    refine ⟨by simp, .inl ⟨_, _, rfl, run_takeDeferred hK2, ?_⟩⟩
    have c5 := cell_kept hA2.cell (grownBy_putObj' _ D (.deferred none)) (fun r e => by cases e; exact ⟨_, hK2, rfl⟩)
    have c6 := cell_kept hB2.cell (grownBy_putObj' _ D (.deferred none)) (fun r e => by cases e; exact ⟨_, hK2, rfl⟩)
    have er : okRes ys = some ys := by unfold okRes; rw [if_pos hp]
    refine ⟨.tuple #[.slice va ys.length vcap, .bool true], ?_, .slice va ys.length vcap, by rw [er]; rfl, by rw [er]; exact ownsRow_putObj hr3 _ hK2 rfl, hb2.trans (belowK_b (w := w) (Nat.le_refl _) _ D _ _ (by simp at hD; omega) hK2 rfl rfl)⟩
    simp [results, Tryd.f106, go_sem, c5, c6]
  case stop =>
    rintro D c pre W hD hpre ⟨⟨rfl, ⟨p, x, rfl, hx⟩, hA, hB⟩, hBel⟩ hK
    gi_wp2
    refine ⟨by simp, .inl ⟨_, _, rfl, run_takeDeferred hK, ?_⟩⟩
    have c5 := cell_kept hA.cell (grownBy_putObj' _ D (.deferred none)) (fun r e => by cases e; exact ⟨_, hK, rfl⟩)
    have c6 := cell_kept hB.cell (grownBy_putObj' _ D (.deferred none)) (fun r e => by cases e; exact ⟨_, hK, rfl⟩)
    have er : okRes xs = none := by unfold okRes; rw [if_neg (okL_not hpre hx)]
    refine ⟨.tuple #[.slice none 0 0, .bool false], ?_, .slice none 0 0, by rw [er]; rfl, by rw [er]; exact World.ownsRow_nil _ _ _ _, hBel.trans (belowK_b (w := w) (Nat.le_refl _) W D _ _ (by simp at hD; omega) hK rfl rfl)⟩
    simp [results, Tryd.f106, go_sem, c5, c6]
end Go.Proofs.YtapffbbmofhpoaaDoor.L1

namespace Go.Proofs.YtapffbbmofhpoaaDoor.L1
open Go.RowKit
set_option linter.unusedVariables false

set_option maxRecDepth 100000 in
set_option maxHeartbeats 1000000 in
theorem goodNumbers_yes (a : Option Addr) (xs : List Int) (n cap : Nat) (w : World) (hn : xs.length = n) (hs : Sl w a xs) (hn2 : n ≤ 40) (hok : OkL xs) :
    Calls Tryd.prog 105 #[.slice a n cap] w fun e w' => e = .returned (.bool true) ∧ w = w' := by
  have HS := hide hs
  have HN := hide hn
  have HK := hide hok
  have h40 : ¬ 40 < (n : Int) := by omega
  clear hs hn hok
  go_enter Tryd.func105, Tryd.ntmps105
  go_wp2
  go_loop [10] (fun i => ∃ k : Nat, k ≤ n ∧ i = .int .i64 k) (fun i => n - (intOf i).toNat)
  case atStart => exact ⟨0, Nat.zero_le _, rfl⟩
  case round =>
    obtain ⟨k, hk, rfl⟩ := hrel
    by_cases hlt : k < n
    · obtain ⟨b, off, rfl, hc⟩ := HS.out k (by rw [HN.out]; exact hlt)
      have hx := HK.out k (by rw [HN.out]; exact hlt)
      obtain ⟨x, hxe⟩ : ∃ x, x = xs.getD k 0 := ⟨_, rfl⟩
      rw [← hxe] at hc hx
      have hc2 := fun w => callsIn_wide.1 (isNumber_yes Fence.wide 1 trivial rfl x w hx.1 hx.2)
      have HC := hide hc2
      have hltI : (k : Int) < (n : Int) := by omega
      clear hxe hx hc2
      go_wp2_with fail
      refine (HC.out _).mono ?_
      rintro e w1 ⟨rfl, rfl⟩
      go_wp2
      go_round
      case rel => exact ⟨k + 1, by omega, by go_num⟩
      case measure => simp [intOf]; omega
    · have hltI : ¬ (k : Int) < (n : Int) := by omega
      go_wp2
      go_ret
      exact ⟨rfl, rfl⟩

set_option maxRecDepth 100000 in
set_option maxHeartbeats 1000000 in
theorem goodNumbers_no (a : Option Addr) (xs : List Int) (n cap : Nat) (w : World) (hn : xs.length = n) (hs : Sl w a xs) (hn2 : n ≤ 1048576) (hno : ¬ (n ≤ 40 ∧ OkL xs)) :
    Calls Tryd.prog 105 #[.slice a n cap] w fun e w' => e = .returned (.bool false) ∧ w = w' := by
  by_cases h40 : 40 < (n : Int)
  · clear hs hn hno
    go_enter Tryd.func105, Tryd.ntmps105
    go_wp2
    go_ret
    exact ⟨rfl, rfl⟩
  have HS := hide hs
  have HN := hide hn
  have HK := hide (fun h => hno ⟨by omega, h⟩)
  clear hs hn hno
  go_enter Tryd.func105, Tryd.ntmps105
  go_wp2
  go_loop [10] (fun i => ∃ k : Nat, k ≤ n ∧ i = .int .i64 k ∧ Hid (∀ j, j < k → -1000000000000 ≤ xs.getD j 0 ∧ xs.getD j 0 ≤ 1000000000000)) (fun i => n - (intOf i).toNat)
  case atStart => exact ⟨0, Nat.zero_le _, rfl, fun j hj => absurd hj (Nat.not_lt_zero _)⟩
  case round =>
    obtain ⟨k, hk, rfl, HJ⟩ := hrel
    by_cases hlt : k < n
    · obtain ⟨b, off, rfl, hc⟩ := HS.out k (by rw [HN.out]; exact hlt)
      have hnext : -1000000000000 ≤ xs.getD k 0 ∧ xs.getD k 0 ≤ 1000000000000 → ∀ j, j < k + 1 → -1000000000000 ≤ xs.getD j 0 ∧ xs.getD j 0 ≤ 1000000000000 := fun h1 j hj => by
        by_cases e : j = k
        · subst e; exact h1
        · exact HJ.out j (by omega)
      obtain ⟨x, hxe⟩ : ∃ x, x = xs.getD k 0 := ⟨_, rfl⟩
      rw [← hxe] at hc hnext
      have hltI : (k : Int) < (n : Int) := by omega
      have HX := hide hnext
      clear hxe hnext
      by_cases hx : -1000000000000 ≤ x ∧ x ≤ 1000000000000
      · have hc2 := fun w => callsIn_wide.1 (isNumber_yes Fence.wide 1 trivial rfl x w hx.1 hx.2)
        have HC := hide hc2
        have HXX := hide hx
        clear hc2 hx
        go_wp2_with fail
        refine (HC.out _).mono ?_
        rintro e w1 ⟨rfl, rfl⟩
        go_wp2
        go_round
        case rel => exact ⟨k + 1, by omega, by go_num, HX.out HXX.out⟩
        case measure => simp [intOf]; omega
      · have hc2 := fun w => callsIn_wide.1 (isNumber_no Fence.wide 1 trivial rfl x w hx)
        have HC := hide hc2
        clear hc2 hx
        go_wp2_with fail
        refine (HC.out _).mono ?_
        rintro e w1 ⟨rfl, rfl⟩
        go_wp2
        go_ret
        exact ⟨rfl, rfl⟩
    · exfalso
      exact HK.out (fun j hj => HJ.out j (by rw [HN.out] at hj; omega))

theorem own_base {w : World} {b c n size : Nat} {e : TypeId} {v : Value} {xs : List Value} (h : w.ownsRow c e size v n xs) (hbc : b ≤ c) : w.ownsRow b e size v n xs := by
  refine ⟨h.1, ?_⟩
  rcases h.2 with h0 | ⟨g, cap, cur, hv, hg, r⟩
  · exact .inl h0
  · exact .inr ⟨g, cap, cur, hv, Nat.le_trans hbc hg, r⟩

theorem dRes_of {xs : List Int} (h40 : xs.length ≤ 40) (h : OkL xs) : okRes (dl 0 xs) = dRes xs := by
  unfold okRes dRes
  by_cases hd : OkL (dl 0 xs)
  · rw [if_pos hd, if_pos ⟨h40, h, hd⟩]
  · rw [if_neg hd, if_neg (fun hh => hd hh.2.2)]
theorem dRes_none {xs : List Int} (h : ¬ (xs.length ≤ 40 ∧ OkL xs)) : dRes xs = none := by
  unfold dRes
  rw [if_neg (fun hh => h ⟨hh.1, hh.2.1⟩)]

set_option maxRecDepth 100000 in
set_option maxHeartbeats 1000000 in
theorem deltasOf_any (a : Option Addr) (xs : List Int) (n cap : Nat) (w : World) (hn : xs.length = n) (hs : Sl w a xs) (hn2 : n ≤ 1048576) :
    Calls Tryd.prog 46 #[.slice a n cap] w fun e w' => RetL w (dRes xs) e w' := by
  by_cases hok : n ≤ 40 ∧ OkL xs
  · have c1 := goodNumbers_yes a xs n cap w hn hs hok.1 hok.2
    have c2 := callsIn_wide.1 (differences_in Fence.wide 1 trivial rfl a n cap w)
    have e := dRes_of (by omega) hok.2
    have c3 : Calls Tryd.prog 106 #[.func (.func 136) #[] #[.pointer (some ⟨w.heap.size, 0, none⟩)]] (w.alloc (.cells #[.slice a n cap] 32)) fun e w' => RetL (w.alloc (.cells #[.slice a n cap] 32)) (dRes xs) e w' := by
      rw [← e]
      refine callsIn_wide.1 (collect_in Fence.wide 3 trivial trivial rfl (by omega) trivial (enters_of Tryd.func136 (by kernel_rfl) rfl) (dl 0 xs) (by rw [dl_len]; omega) _ (fun w0 hw0 => ?_))
      have hb := Boxed.new w 32 (.slice a n cap)
      have hlt : w.heap.size < (w.alloc (.cells #[.slice a n cap] 32)).heap.size := by simp
      rw [dl_len, hn]
      refine differences_stops Fence.wide 2 trivial rfl (by omega) w.heap.size _ n cap a xs hn hok.1 hok.2 w0 (Nat.lt_of_lt_of_le hlt hw0.size) hw0.size ((hw0.cell (p := ⟨w.heap.size, 0, none⟩) hlt).trans hb.cell) (fun i hi => ?_)
      obtain ⟨b, off, ha, hc⟩ := hs i (by omega)
      have hbl := blk_lt hc
      refine ⟨b, off, ha, by simp; omega, ?_⟩
      rw [hw0.cell (p := ⟨b, off + i, none⟩) (by simp; omega)]
      exact (((Below.refl w.heap.size w).alloc (Nat.le_refl _) (.cells #[.slice a n cap] 32)).cell (p := ⟨b, off + i, none⟩) hbl).trans hc
    have C1 := hide c1
    have C2 := hide c2
    have C3 := hide c3
    have hb0 : Below w.heap.size w (w.alloc (.cells #[.slice a n cap] 32)) := (Below.refl _ w).alloc (Nat.le_refl _) _
    clear c1 c2 c3 hok hs hn e
    go_enter Tryd.func46, Tryd.ntmps46
    go_wp2_with fail
    refine C1.out.mono ?_
    rintro e w1 ⟨rfl, rfl⟩
    go_wp2_with fail
    refine C2.out.mono ?_
    rintro e w1 ⟨rfl, rfl⟩
    go_wp2_with fail
    refine C3.out.mono ?_
    rintro e w1 ⟨v, rfl, ho, hb1⟩
    obtain ⟨va, vcap, rfl, _, _⟩ := own_form ho
    have HO := hide (own_base ho (by simp : w.heap.size ≤ (w.alloc (.cells #[.slice a n cap] 32)).heap.size))
    have HB := hide (hb0.trans (hb1.mono (by simp)))
    clear ho hb1
    go_wp2
    go_ret2
    exact ⟨_, rfl, HO.out, HB.out⟩
  · have c1 := goodNumbers_no a xs n cap w hn hs hn2 hok
    have e := dRes_none (xs := xs) (by rw [hn]; exact hok)
    have C1 := hide c1
    have E := hide e
    clear c1 hok hs hn e
    go_enter Tryd.func46, Tryd.ntmps46
    go_wp2_with fail
    refine C1.out.mono ?_
    rintro e w1 ⟨rfl, rfl⟩
    go_wp2
    go_ret2
    exact ⟨_, by rw [E.out]; rfl, by rw [E.out]; exact World.ownsRow_nil _ _ _ _, Below.refl _ _⟩

theorem sRes_of {xs : List Int} (h40 : xs.length ≤ 40) (h : OkL xs) : okRes (sm 0 xs) = sRes xs := by
  unfold okRes sRes
  by_cases hd : OkL (sm 0 xs)
  · rw [if_pos hd, if_pos ⟨h40, h, hd⟩]
  · rw [if_neg hd, if_neg (fun hh => hd hh.2.2)]
theorem sRes_none {xs : List Int} (h : ¬ (xs.length ≤ 40 ∧ OkL xs)) : sRes xs = none := by
  unfold sRes
  rw [if_neg (fun hh => h ⟨hh.1, hh.2.1⟩)]

set_option maxRecDepth 100000 in
set_option maxHeartbeats 1000000 in
theorem sumsOf_any (a : Option Addr) (xs : List Int) (n cap : Nat) (w : World) (hn : xs.length = n) (hs : Sl w a xs) (hn2 : n ≤ 1048576) :
    Calls Tryd.prog 48 #[.slice a n cap] w fun e w' => RetL w (sRes xs) e w' := by
  by_cases hok : n ≤ 40 ∧ OkL xs
  · have c1 := goodNumbers_yes a xs n cap w hn hs hok.1 hok.2
    have c2 := callsIn_wide.1 (runningSums_in Fence.wide 1 trivial rfl a n cap w)
    have e := sRes_of (by omega) hok.2
    have c3 : Calls Tryd.prog 106 #[.func (.func 137) #[] #[.pointer (some ⟨w.heap.size, 0, none⟩)]] (w.alloc (.cells #[.slice a n cap] 32)) fun e w' => RetL (w.alloc (.cells #[.slice a n cap] 32)) (sRes xs) e w' := by
      rw [← e]
      refine callsIn_wide.1 (collect_in Fence.wide 3 trivial trivial rfl (by omega) trivial (enters_of Tryd.func137 (by kernel_rfl) rfl) (sm 0 xs) (by rw [sm_len]; omega) _ (fun w0 hw0 => ?_))
      have hb := Boxed.new w 32 (.slice a n cap)
      have hlt : w.heap.size < (w.alloc (.cells #[.slice a n cap] 32)).heap.size := by simp
      rw [sm_len, hn]
      refine runningSums_stops Fence.wide 2 trivial rfl (by omega) w.heap.size _ n cap a xs hn hok.1 hok.2 w0 (Nat.lt_of_lt_of_le hlt hw0.size) hw0.size ((hw0.cell (p := ⟨w.heap.size, 0, none⟩) hlt).trans hb.cell) (fun i hi => ?_)
      obtain ⟨b, off, ha, hc⟩ := hs i (by omega)
      have hbl := blk_lt hc
      refine ⟨b, off, ha, by simp; omega, ?_⟩
      rw [hw0.cell (p := ⟨b, off + i, none⟩) (by simp; omega)]
      exact (((Below.refl w.heap.size w).alloc (Nat.le_refl _) (.cells #[.slice a n cap] 32)).cell (p := ⟨b, off + i, none⟩) hbl).trans hc
    have C1 := hide c1
    have C2 := hide c2
    have C3 := hide c3
    have hb0 : Below w.heap.size w (w.alloc (.cells #[.slice a n cap] 32)) := (Below.refl _ w).alloc (Nat.le_refl _) _
    clear c1 c2 c3 hok hs hn e
    go_enter Tryd.func48, Tryd.ntmps48
    go_wp2_with fail
    refine C1.out.mono ?_
    rintro e w1 ⟨rfl, rfl⟩
    go_wp2_with fail
    refine C2.out.mono ?_
    rintro e w1 ⟨rfl, rfl⟩
    go_wp2_with fail
    refine C3.out.mono ?_
    rintro e w1 ⟨v, rfl, ho, hb1⟩
    obtain ⟨va, vcap, rfl, _, _⟩ := own_form ho
    have HO := hide (own_base ho (by simp : w.heap.size ≤ (w.alloc (.cells #[.slice a n cap] 32)).heap.size))
    have HB := hide (hb0.trans (hb1.mono (by simp)))
    clear ho hb1
    go_wp2
    go_ret2
    exact ⟨_, rfl, HO.out, HB.out⟩
  · have c1 := goodNumbers_no a xs n cap w hn hs hn2 hok
    have e := sRes_none (xs := xs) (by rw [hn]; exact hok)
    have C1 := hide c1
    have E := hide e
    clear c1 hok hs hn e
    go_enter Tryd.func48, Tryd.ntmps48
    go_wp2_with fail
    refine C1.out.mono ?_
    rintro e w1 ⟨rfl, rfl⟩
    go_wp2
    go_ret2
    exact ⟨_, by rw [E.out]; rfl, by rw [E.out]; exact World.ownsRow_nil _ _ _ _, Below.refl _ _⟩
end Go.Proofs.YtapffbbmofhpoaaDoor.L1

namespace Go.Proofs.YtapffbbmofhpoaaDoor.L1
open Go.RowKit
set_option linter.unusedVariables false

set_option maxRecDepth 100000 in
set_option maxHeartbeats 4000000 in
theorem samplesOf_any (a : Option Addr) (xs : List Int) (m cap : Nat) (w : World) (hr : xs.length = 2 * m) (hm : m ≤ 40) (hs : Sl w a xs) (hokx : OkL xs) (r : Option (List (Int × Int))) (hres : r = ofPairs xs) :
    Calls Tryd.prog 102 #[.slice a (2 * m) cap] w fun e w' => RetS w r e w' := by
  obtain ⟨B0, hB0⟩ : ∃ B0, B0 = w := ⟨_, rfl⟩
  rw [← hB0]
  have hle := inter_ev m xs hr
  have S1 := hide (fun a cap w hs => sumsOf_any a (ev xs) m cap w hle.2.1 hs (by omega))
  have S2 := hide (fun a cap w hs => sumsOf_any a (sm 0 (ev xs)) m cap w (by rw [sm_len, hle.2.1]) hs (by omega))
  have S3 := hide (fun a cap w hs => sumsOf_any a (od xs) m cap w hle.2.2 hs (by omega))
  have hokev := okL_ev m hr hokx
  have HOE := hide hokev
  have HLE := hide hle
  obtain ⟨i0, hi, hz0, hz1, hz2⟩ := info_parts info_int
  obtain ⟨i1, hi1, hy0, hy1, hy2⟩ := info_parts info_smpS
  have HSR := hide hs
  have HRL := hide hr
  have HR := hide hr
  have HRES := hide hres
  clear hs hr hres hle hokx hokev
  rw [← hB0] at HSR
  clear hB0
  go_enter Tryd.func102, Tryd.ntmps102
  go_wp2
  go_loopw [4, 5, 6] (fun ot ov i wr => ∃ (k j : Nat), k ≤ m ∧ j = 2 * k + 0 ∧ i = .int .i64 j ∧ Two B0.heap.size wr ot ov k ((ev xs).take k) ((od xs).take k) ∧ Below B0.heap.size B0 wr) (fun _ _ i _ => 2 * m + 0 - (intOf i).toNat)
  case atStart => exact ⟨0, 0, Nat.zero_le _, rfl, rfl, two_nil _ _, Below.refl _ _⟩
  case round =>
    obtain ⟨k, j, hk, hj, rfl, htwo, hbel⟩ := hrel
    obtain ⟨oa, ocap, qa, qcap, rfl, rfl, _, _⟩ := htwo.form
    by_cases hlt : k < m
    · obtain ⟨b, off, hab, hc0⟩ := HSR.out j (by rw [HRL.out]; omega)
      cases hab
      obtain ⟨b', off', hbo, hd0⟩ := HSR.out (j + 1) (by rw [HRL.out]; omega)
      cases hbo
      have hev := ev_get m xs HR.out k hlt
      have he1 : (xs).getD j 0 = (ev xs).getD k 0 := by rw [hj]; exact hev.1.symm
      have he2 : (xs).getD (j + 1) 0 = (od xs).getD k 0 := by rw [hj]; exact hev.2.symm
      have hc : wr.cell? ⟨b, off + j, none⟩ = some (.int .i64 ((ev xs).getD k 0)) := by
        rw [hbel.cell (p := ⟨b, off + j, none⟩) (blk_lt hc0), hc0, he1]
      have hd : wr.cell? ⟨b, off + (j + 1), none⟩ = some (.int .i64 ((od xs).getD k 0)) := by
        rw [hbel.cell (p := ⟨b, off + (j + 1), none⟩) (blk_lt hd0), hd0, he2]
      have HDB := hide (blk_lt hd0)
      have hltI : (j : Int) < ((2 * m : Nat) : Int) := by omega
      have hltI1 : (j : Int) + 1 < ((2 * m : Nat) : Int) := by omega
      have hj0 : (0 : Int) ≤ (j : Int) := by omega
      have hj1 : (0 : Int) ≤ (j : Int) + 1 := by omega
      have hle := inter_ev m xs HR.out
      have ht1 := ltake_snoc (ev xs) k (by rw [hle.2.1]; exact hlt)
      have ht2 := ltake_snoc (od xs) k (by rw [hle.2.2]; exact hlt)
      obtain ⟨x, hx⟩ : ∃ x, x = (ev xs).getD k 0 := ⟨_, rfl⟩
      obtain ⟨y, hy⟩ : ∃ y, y = (od xs).getD k 0 := ⟨_, rfl⟩
      rw [← hx] at hc ht1
      rw [← hy] at hd ht2
      obtain ⟨ts, hts⟩ : ∃ ts, ts = (ev xs).take k := ⟨_, rfl⟩
      obtain ⟨vs, hvs⟩ : ∃ vs, vs = (od xs).take k := ⟨_, rfl⟩
      rw [← hts] at ht1 htwo
      rw [← hvs] at ht2 htwo
      have HT1 := hide ht1
      have HT2 := hide ht2
      have HJ := hide hj
      have hbs := hbel.size
      have HTW := hide htwo
      have HD := hide hd
      have hjm : j ≤ 100 := by omega
      clear hc0 hd0 hx hy ht1 ht2 htwo hts hvs he1 he2 hev hle hj hd
      go_wp2_with (first
        | (at_builtin; refine wpList_append_own_at _ rfl _ _ 32 rfl B0.heap.size 3 i0 (.int .i64 0) 1 8 Tryd.underlying32 hi hz0 hz1 hz2 rfl (by decide) _ _ _ rfl (HTW.out.1.alloc _) ⟨wr.heap.size, 0, none⟩ 1 1 [.int .i64 x] rfl rfl (cell_one_new _ _ _) (by intro u hu; simp at hu; subst hu; rfl) (by unfold maxLen; omega) (by omega) (by simp; omega) ?_)
        | go_in)
      intro v3 w3 hown3 hgrow3 _ hblk3
      have F3 := two_firstS HTW.out hgrow3 hown3 (by simpa using hblk3)
      obtain ⟨hb3, HF3⟩ := F3
      have hd3 : w3.cell? ⟨b, off + (j + 1), none⟩ = some (.int .i64 y) := (hb3.cell (p := ⟨b, off + (j + 1), none⟩) HDB.out).trans HD.out
      have hb3' := hbel.trans hb3
      have hs3 := hb3'.size
      clear hown3 hgrow3 hblk3 hb3
      obtain ⟨g3, c3, rfl⟩ := ownsRow_succ' HF3.out.1
      go_wp2_with (first
        | (at_builtin; refine wpList_append_own_at _ rfl _ _ 32 rfl B0.heap.size 3 i0 (.int .i64 0) 1 8 Tryd.underlying32 hi hz0 hz1 hz2 rfl (by decide) _ _ _ rfl (HF3.out.2.1.alloc _) ⟨w3.heap.size, 0, none⟩ 1 1 [.int .i64 y] rfl rfl (cell_one_new _ _ _) (by intro u hu; simp at hu; subst hu; rfl) (by unfold maxLen; omega) (by omega) (by simp; omega) ?_)
        | go_in)
      intro v4 w4 hown4 hgrow4 _ hblk4
      have F4 := hide (two_second HF3.out hgrow4 hown4 (by simpa using hblk4))
      have hb4 := hb3'.trans (below_app hs3 hgrow4 (fun g hg => (HF3.out.2.1.lt g hg).1))
      clear hown4 hgrow4 hblk4
      go_wp2
      go_roundw
      case rel => exact ⟨k + 1, j + 2, by omega, by rw [HJ.out]; omega, by go_num, by rw [HT1.out, HT2.out]; simpa using F4.out, hb4⟩
      case measure => have := HJ.out; simp [intOf]; omega
    · obtain rfl : m = k := by omega
      have hle := inter_ev m xs HR.out
      have e1 : (ev xs).take m = ev xs := List.take_of_length_le (by rw [hle.2.1]; omega)
      have e2 : (od xs).take m = od xs := List.take_of_length_le (by rw [hle.2.2]; omega)
      rw [e1, e2] at htwo
      have hltI : ¬ (j : Int) < ((2 * m : Nat) : Int) := by omega
      obtain ⟨ta, tc, va, vc, e3, e4, hst, hsv⟩ := htwo.form
      cases e3
      cases e4
      have HT := hide hst
      have HV := hide hsv
      clear e1 e2 htwo hst hsv hle hj
      by_cases ok1 : OkL (sm 0 (ev xs))
      · have r1 := sRes_yes (by rw [HLE.out.2.1]; exact hm) HOE.out.1 ok1
        simp only [r1, RetL, Option.isSome_some, Option.getD_some, sm_len, HLE.out.2.1] at S1
        by_cases ok2 : OkL (sm 0 (sm 0 (ev xs)))
        · have r2 := sRes_yes (by rw [sm_len, HLE.out.2.1]; exact hm) ok1 ok2
          simp only [r2, RetL, Option.isSome_some, Option.getD_some, sm_len, HLE.out.2.1] at S2
          by_cases ok3 : OkL (sm 0 (od xs))
          · have r3 := sRes_yes (by rw [HLE.out.2.2]; exact hm) HOE.out.2 ok3
            simp only [r3, RetL, Option.isSome_some, Option.getD_some, sm_len, HLE.out.2.2] at S3
            clear r1 r2 r3 ok1 ok2 ok3
            go_wp2_with fail
            refine (S1.out _ _ _ HT.out).mono ?_
            rintro e w2 ⟨v2, rfl, ho2, hb2⟩
            obtain ⟨s1, k1, rfl, sl1, _⟩ := own_form ho2
            have V2 := hide (HV.out.below hb2)
            have T2 := hide sl1
            have B2 := hide (hbel.trans (hb2.mono hbel.size))
            clear ho2 sl1 hb2
            go_wp2_with fail
            refine (S2.out _ _ _ T2.out).mono ?_
            rintro e w3 ⟨v3, rfl, ho3, hb3⟩
            obtain ⟨s2, k2, rfl, sl2, _⟩ := own_form ho3
            have V3 := hide (V2.out.below hb3)
            have T3 := hide sl2
            have B3 := hide (B2.out.trans (hb3.mono B2.out.size))
            clear ho3 sl2 hb3
            go_wp2_with fail
            refine (S3.out _ _ _ V3.out).mono ?_
            rintro e w4 ⟨v4, rfl, ho4, hb4⟩
            obtain ⟨s3, k3, rfl, sl3, _⟩ := own_form ho4
            have T4 := hide (T3.out.below hb4)
            have V4 := hide sl3
            have B4 := hide (B3.out.trans (hb4.mono B3.out.size))
            clear ho4 sl3 hb4
            clear HT HV V2 T2 B2 T3 V3 B3 S1 S2 S3 hbel hltI
            obtain ⟨W2, hW2⟩ : ∃ W2, W2 = w4 := ⟨_, rfl⟩
            rw [← hW2] at T4 V4 B4 ⊢
            clear hW2
            go_wp2
            go_loopw [11, 58] (fun o i wr => ∃ k : Nat, k ≤ m ∧ i = .int .i64 k ∧ wr.ownsRow W2.heap.size 50 2 o k (flat2 ((unS (ev xs) (od xs)).take k)) ∧ Below W2.heap.size W2 wr) (fun _ i _ => m - (intOf i).toNat)
            case atStart => exact ⟨0, Nat.zero_le _, rfl, World.ownsRow_nil _ _ _ _, Below.refl _ _⟩
            case round =>
              obtain ⟨k, hk, rfl, hown, hbel2⟩ := hrel
              obtain ⟨oa, ocap, rfl, _, _⟩ := own_formS hown
              by_cases hlt : k < m
              · obtain ⟨bb, bo, rfl, hcx0⟩ := T4.out k (by rw [sm_len, sm_len, HLE.out.2.1]; exact hlt)
                obtain ⟨cb, co, rfl, hcy0⟩ := V4.out k (by rw [sm_len, HLE.out.2.2]; exact hlt)
                have hcx := (hbel2.cell (p := ⟨bb, bo + k, none⟩) (blk_lt hcx0)).trans hcx0
                have hcy := (hbel2.cell (p := ⟨cb, co + k, none⟩) (blk_lt hcy0)).trans hcy0
                have HBB := hide (blk_lt hcx0)
                have HCB := hide (blk_lt hcy0)
                have htk : (unS (ev xs) (od xs)).take (k + 1) = (unS (ev xs) (od xs)).take k ++ [((sm 0 (sm 0 (ev xs))).getD k 0, (sm 0 (od xs)).getD k 0)] := zip_take _ _ k (by rw [sm_len, sm_len, sm_len, HLE.out.2.1, HLE.out.2.2]) (by rw [sm_len, sm_len, HLE.out.2.1]; exact hlt)
                obtain ⟨x, hx⟩ : ∃ x, x = (sm 0 (sm 0 (ev xs))).getD k 0 := ⟨_, rfl⟩
                obtain ⟨y, hy⟩ : ∃ y, y = (sm 0 (od xs)).getD k 0 := ⟨_, rfl⟩
                rw [← hx] at hcx htk
                rw [← hy] at hcy htk
                obtain ⟨ns, hns⟩ : ∃ ns, ns = (unS (ev xs) (od xs)).take k := ⟨_, rfl⟩
                rw [← hns] at htk hown
                have HTK := hide htk
                have HROW := hide hown
                have hltI : (k : Int) < (m : Int) := by omega
                have hk0 : (0 : Int) ≤ (k : Int) := by omega
                have hsz2 := hbel2.size
                clear hcx0 hcy0 hx hy htk hns hown
                go_wp2_with (first
                  | (at_builtin; refine wpList_append_own _ rfl _ _ 41 rfl W2.heap.size 50 i1 (.agg #[.int .i64 0, .int .i64 0]) 2 16 Tryd.underlying41 hi1 hy0 hy1 hy2 rfl (by decide) _ _ _ rfl (HROW.out.alloc _) ⟨wr.heap.size, 0, none⟩ 1 1 [.int .i64 x, .int .i64 y] rfl rfl (cell_two_newS _ _ _ _) (by intro u hu; simp at hu; rcases hu with rfl | rfl <;> rfl) (by unfold maxLen; omega) (by omega) (by simp; omega) ?_)
                  | go_in)
                intro v6 w6 hown6 hgrow6 _
                have hb6 := hbel2.trans (below_app hsz2 hgrow6 (fun g hg => (HROW.out.lt g hg).1))
                have hown7 : w6.ownsRow W2.heap.size 50 2 v6 (k + 1) (flat2 ((unS (ev xs) (od xs)).take (k + 1))) := by rw [HTK.out, flat2_append]; simpa [flat2] using hown6
                clear hown6 hgrow6
                go_wp2
                go_roundw
                case rel => exact ⟨k + 1, by omega, by go_num, hown7, hb6⟩
                case measure => simp [intOf]; omega
              · obtain rfl : m = k := by omega
                have e1 : (unS (ev xs) (od xs)).take m = unS (ev xs) (od xs) := List.take_of_length_le (by rw [unS_len (by rw [HLE.out.2.1, HLE.out.2.2]), HLE.out.2.1]; omega)
                rw [e1] at hown
                obtain ⟨oa', ocap', eo, hsl, hlen⟩ := own_formS hown
                cases eo
                have hltI : ¬ (m : Int) < (m : Int) := by omega
                have HO := hide (own_baseS hown B4.out.size)
                have HSL := hide hsl
                have BW := hide (B4.out.trans (hbel2.mono B4.out.size))
                have HLN := hide hlen
                clear e1 hown hsl hlen
                by_cases hg : GoodS (unS (ev xs) (od xs))
                · have C9 := hide (goodSamples_any oa (unS (ev xs) (od xs)) m ocap wr HLN.out HSL.out (by omega) true (by simp [hg]))
                  have HRN : Hid (r = some (unS (ev xs) (od xs))) := by rw [show r = _ from HRES.out]; exact ofPairs_some hg
                  clear hg
                  go_wp2_with fail
                  refine C9.out.mono ?_
                  rintro e w9 ⟨rfl, hb9⟩
                  have HO9 := hide (own_belowS HO.out hb9)
                  have B9 := hide (BW.out.trans (hb9.mono BW.out.size))
                  clear hb9
                  go_wp2
                  go_ret2
                  exact ⟨_, by rw [HRN.out]; rfl, by rw [HRN.out]; simp only [Option.getD_some]; rw [HLN.out]; exact HO9.out, B9.out⟩
                · have C9 := hide (goodSamples_any oa (unS (ev xs) (od xs)) m ocap wr HLN.out HSL.out (by omega) false (by simp [hg]))
                  have HRN : Hid (r = none) := by rw [show r = _ from HRES.out]; exact ofPairs_none hg
                  clear hg
                  go_wp2_with fail
                  refine C9.out.mono ?_
                  rintro e w9 ⟨rfl, hb9⟩
                  have B9 := hide (BW.out.trans (hb9.mono BW.out.size))
                  clear hb9
                  go_wp2
                  go_ret2
                  exact ⟨_, by rw [HRN.out]; rfl, by rw [HRN.out]; exact World.ownsRow_nil _ _ _ _, B9.out⟩
          · have r3 := sRes_no (xs := od xs) (fun h => ok3 h)
            simp only [r3, RetL, Option.isSome_none, Option.getD_none] at S3
            have HRN : Hid (r = none) := by rw [show r = _ from HRES.out]; exact ofPairs_none (fun hg => ok3 (good_sums (by rw [HLE.out.2.1, HLE.out.2.2]) hg).2.2)
            clear r1 r2 r3 ok1 ok2 ok3
            go_wp2_with fail
            refine (S1.out _ _ _ HT.out).mono ?_
            rintro e w2 ⟨v2, rfl, ho2, hb2⟩
            obtain ⟨s1, k1, rfl, sl1, _⟩ := own_form ho2
            have V2 := hide (HV.out.below hb2)
            have T2 := hide sl1
            have B2 := hide (hbel.trans (hb2.mono hbel.size))
            clear ho2 sl1 hb2
            go_wp2_with fail
            refine (S2.out _ _ _ T2.out).mono ?_
            rintro e w3 ⟨v3, rfl, ho3, hb3⟩
            obtain ⟨s2, k2, rfl, sl2, _⟩ := own_form ho3
            have V3 := hide (V2.out.below hb3)
            have T3 := hide sl2
            have B3 := hide (B2.out.trans (hb3.mono B2.out.size))
            clear ho3 sl2 hb3
            go_wp2_with fail
            refine (S3.out _ _ _ V3.out).mono ?_
            rintro e w4 ⟨v4, rfl, ho4, hb4⟩
            clear ho4
            have BN := hide (B3.out.trans (hb4.mono B3.out.size))
            clear hb4
            go_wp2
            go_ret2
            exact ⟨_, by rw [HRN.out]; rfl, by rw [HRN.out]; exact World.ownsRow_nil _ _ _ _, BN.out⟩
        · have r2 := sRes_no (xs := sm 0 (ev xs)) (fun h => ok2 h)
          simp only [r2, RetL, Option.isSome_none, Option.getD_none] at S2
          have HRN : Hid (r = none) := by rw [show r = _ from HRES.out]; exact ofPairs_none (fun hg => ok2 (good_sums (by rw [HLE.out.2.1, HLE.out.2.2]) hg).2.1)
          clear r1 r2 ok1 ok2
          go_wp2_with fail
          refine (S1.out _ _ _ HT.out).mono ?_
          rintro e w2 ⟨v2, rfl, ho2, hb2⟩
          obtain ⟨s1, k1, rfl, sl1, _⟩ := own_form ho2
          have V2 := hide (HV.out.below hb2)
          have T2 := hide sl1
          have B2 := hide (hbel.trans (hb2.mono hbel.size))
          clear ho2 sl1 hb2
          go_wp2_with fail
          refine (S2.out _ _ _ T2.out).mono ?_
          rintro e w3 ⟨v3, rfl, ho3, hb3⟩
          clear ho3
          have BN := hide (B2.out.trans (hb3.mono B2.out.size))
          clear hb3
          go_wp2
          go_ret2
          exact ⟨_, by rw [HRN.out]; rfl, by rw [HRN.out]; exact World.ownsRow_nil _ _ _ _, BN.out⟩
      · have r1 := sRes_no (xs := ev xs) (fun h => ok1 h)
        simp only [r1, RetL, Option.isSome_none, Option.getD_none] at S1
        have HRN : Hid (r = none) := by rw [show r = _ from HRES.out]; exact ofPairs_none (fun hg => ok1 (good_sums (by rw [HLE.out.2.1, HLE.out.2.2]) hg).1)
        clear r1 ok1
        go_wp2_with fail
        refine (S1.out _ _ _ HT.out).mono ?_
        rintro e w2 ⟨v2, rfl, ho2, hb2⟩
        clear ho2
        have BN := hide (hbel.trans (hb2.mono hbel.size))
        clear hb2
        go_wp2
        go_ret2
        exact ⟨_, by rw [HRN.out]; rfl, by rw [HRN.out]; exact World.ownsRow_nil _ _ _ _, BN.out⟩
end Go.Proofs.YtapffbbmofhpoaaDoor.L1

namespace Go.Proofs.YtapffbbmofhpoaaDoor.L1
open Go.RowKit
set_option linter.unusedVariables false

/-- The table of the digits' worths lies in memory as its initialiser lays it. -/
def Tab (w : World) : Prop := ∀ k : Nat, k < 6 → w.cell? ⟨0, k, none⟩ = some (.int .i64 (wor k))

theorem block_lt {w : World} {b o : Nat} {v : Value} (h : w.cell? ⟨b, o, none⟩ = some v) : b < w.heap.size := by
  by_cases hb : b < w.heap.size
  · exact hb
  · simp [World.cell?, Array.getElem?_eq_none (show w.heap.size ≤ b by omega)] at h
theorem Tab.below {w w' : World} (h : Tab w) (hb : Below w.heap.size w w') : Tab w' := fun k hk => by
  have hc := h k hk
  rw [hb.cell (p := ⟨0, k, none⟩) (block_lt hc)]
  exact hc
end Go.Proofs.YtapffbbmofhpoaaDoor.L1

namespace Go.Proofs.YtapffbbmofhpoaaDoor.L1
open Go.RowKit
set_option linter.unusedVariables false

def gvRes (a : Nat) : Option (List Int) → Value
  | none => .tuple #[.int .i64 0, .int .i64 0, .bool false]
  | some l => .tuple #[.int .i64 (zag (val l)), .int .i64 ((a + l.length : Nat) : Int), .bool true]

theorem gvRes_some {a k : Nat} {l : List Int} {v : Int} (hv : val l = v) (hl : l.length = k + 1) : gvRes a (some l) = .tuple #[.int .i64 (zag v), .int .i64 ((a : Int) + (k : Int) + 1), .bool true] := by
  subst hv
  simp only [gvRes, hl]
  congr 4

theorem tdiv_zag (z : Int) (h : 0 ≤ z) (h2 : z ≤ 2000000000000) (ho : z % 2 = 1) : wrap64 (-(z + 1).tdiv 2) = zag z := by
  unfold zag
  rw [if_pos ho, Int.tdiv_eq_ediv_of_nonneg (by omega)]
  unfold wrap64
  omega

set_option maxRecDepth 100000 in
set_option maxHeartbeats 400000 in
theorem unZigZag_yes (z : Int) (w : World) (h1 : 0 ≤ z) (h2 : z ≤ 2000000000000) :
    Calls Tryd.prog 16 #[.int .i64 z] w fun e w' => e = .returned (.tuple #[.int .i64 (zag z), .bool true]) ∧ w = w' := by
  by_cases h : z % 2 = 1
  · have e := tdiv_zag z h1 h2 h
    have E := hide e
    clear e
    go_enter Tryd.func16, Tryd.ntmps16
    go_wp2
    go_ret2
    rw [← E.out]
    exact ⟨rfl, rfl⟩
  · have e : zag z = z / 2 := by unfold zag; rw [if_neg h]
    rw [e]
    clear e
    go_enter Tryd.func16, Tryd.ntmps16
    go_wp2
    go_ret2
    exact ⟨rfl, rfl⟩
set_option maxRecDepth 100000 in
set_option maxHeartbeats 400000 in
theorem unZigZag_no (z : Int) (w : World) (h1 : 2000000000000 < z) :
    Calls Tryd.prog 16 #[.int .i64 z] w fun e w' => e = .returned (.tuple #[.int .i64 0, .bool false]) ∧ w = w' := by
  have h0 : ¬ z < 0 := by omega
  go_enter Tryd.func16, Tryd.ntmps16
  go_wp2
  go_ret2
  exact ⟨rfl, rfl⟩

set_option maxRecDepth 100000 in
set_option maxHeartbeats 400000 in
theorem getVarint_out (s : ByteArray) (a : Int) (w : World) (h : a < 0 ∨ (s.size : Int) ≤ a) :
    Calls Tryd.prog 15 #[.string s, .int .i64 a] w fun e w' => e = .returned (.tuple #[.int .i64 0, .int .i64 0, .bool false]) ∧ w = w' := by
  by_cases h0 : a < 0
  · clear h
    go_enter Tryd.func15, Tryd.ntmps15
    go_wp2
    go_ret3
    exact ⟨rfl, rfl⟩
  · have h1 : (s.size : Int) ≤ a := by omega
    clear h
    go_enter Tryd.func15, Tryd.ntmps15
    go_wp2
    go_ret3
    exact ⟨rfl, rfl⟩

set_option maxRecDepth 100000 in
set_option maxHeartbeats 1000000 in
theorem getVarint_any (s : ByteArray) (a : Nat) (w : World) (ha : a < s.size) (hs : s.size ≤ maxLen) (ht : Tab w) :
    Calls Tryd.prog 15 #[.string s, .int .i64 a] w fun e w' => e = .returned (gvRes a (gv (bts s a))) ∧ w = w' := by
  unfold maxLen at hs
  have hI : (a : Int) < (s.size : Int) := by omega
  have e1 : ¬ s.size ≤ a := by omega
  have e2 : ¬ (a : Int) < 0 := by omega
  have HT := hide ht
  clear ht
  have htl := hide (bts_len s a)
  go_enter Tryd.func15, Tryd.ntmps15
  go_wp2
  go_loop [7, 8] (fun z i => ∃ k : Nat, k ≤ 6 ∧ k ≤ s.size - a ∧ i = .int .i64 k ∧ z = .int .i64 (val ((bts s a).take k)) ∧ Hid (Hi ((bts s a).take k)) ∧ Hid (gv (bts s a) = gvf (6 - k) ((bts s a).take k) ((bts s a).drop k))) (fun _ i => 6 - (intOf i).toNat)
  case atStart => exact ⟨0, by omega, by omega, rfl, rfl, fun x hx => by simp at hx, rfl⟩
  case round =>
    obtain ⟨k, hk6, hkl, rfl, rfl, HH, HG⟩ := hrel
    by_cases h6 : k < 6
    · by_cases hl : k < s.size - a
      · have hlt : a + k < s.size := by omega
        have hb := bts_get s a k hlt
        have hbb := bts_byte s a k
        have hc := unhide HT k h6
        have hd := digit_bd ((bts s a).getD k 0) k (by omega)
        have hv := val_bd7 (bts s a) k (by rw [htl.out]; omega) (by omega)
        have h6I : (k : Int) < 6 := by omega
        have hlI : (k : Int) < (s.size : Int) - (a : Int) := by omega
        obtain ⟨b, hbe⟩ : ∃ b, b = (bts s a).getD k 0 := ⟨_, rfl⟩
        rw [← hbe] at hb hbb hd
        obtain ⟨v, hve⟩ : ∃ v, v = val ((bts s a).take k) := ⟨_, rfl⟩
        rw [← hve] at hv ⊢
        have HB := hide hbe
        have HV := hide hve
        obtain ⟨hb0, hb1⟩ := hbb
        obtain ⟨hd0, hd1⟩ := hd
        obtain ⟨hv0, hv1⟩ := hv
        have hb' := hb.symm
        clear hbe hve hb
        by_cases h128 : 128 ≤ b
        · go_wp2
          go_round
          case rel =>
            refine ⟨k + 1, by omega, by omega, by go_num, ?_, ?_, ?_⟩
            · rw [val_take _ _ (by rw [htl.out]; omega), ← HB.out, ← HV.out]
            · exact hi_take (by rw [htl.out]; omega) HH.out (by rw [← HB.out]; exact h128) (by rw [← HB.out]; exact hb1)
            · exact HG.out.trans (gvf_on (by rw [htl.out]; omega) h6 (by rw [← HB.out]; exact h128))
          case measure => simp [intOf]; omega
        · have hstop := gvf_stop (t := bts s a) (k := k) (by rw [htl.out]; omega) h6 (by rw [← HB.out]; omega)
          rw [← HG.out, val_take _ _ (by rw [htl.out]; omega), ← HB.out, ← HV.out] at hstop
          have hst : val ((bts s a).take (k + 1)) = v + b % 128 * wor k := by rw [val_take _ _ (by rw [htl.out]; omega), ← HB.out, ← HV.out]
          have hsl : ((bts s a).take (k + 1)).length = k + 1 := by rw [List.length_take, htl.out]; omega
          have ST := hide hstop
          have VT := hide hst
          have SL := hide hsl
          clear hstop hst hsl HH HG
          by_cases hz : v + b % 128 * wor k ≤ 2000000000000
          · by_cases hk0 : k = 0
            · have hkI : ¬ (0 : Int) < (k : Int) := by omega
              have HK := hide hk0
              clear hk0
              go_wp2_with (go_at_call 16; refine (unZigZag_yes _ _ (by omega) hz).mono ?_; rintro e w' ⟨rfl, rfl⟩)
              go_ret3
              rw [ST.out, if_pos ⟨hz, .inl HK.out⟩, gvRes_some VT.out SL.out]
              exact ⟨rfl, rfl⟩
            · have hkI : (0 : Int) < (k : Int) := by omega
              by_cases hb00 : (b == 0) = true
              · go_wp2_with (go_at_call 16; refine (unZigZag_yes _ _ (by omega) hz).mono ?_; rintro e w' ⟨rfl, rfl⟩)
                go_ret3
                rw [ST.out, if_neg (by have := eq_of_beq hb00; omega)]
                exact ⟨rfl, rfl⟩
              · go_wp2_with (go_at_call 16; refine (unZigZag_yes _ _ (by omega) hz).mono ?_; rintro e w' ⟨rfl, rfl⟩)
                go_ret3
                rw [ST.out, if_pos ⟨hz, .inr (by simpa using hb00)⟩, gvRes_some VT.out SL.out]
                exact ⟨rfl, rfl⟩
          · go_wp2_with (go_at_call 16; refine (unZigZag_no _ _ (by omega)).mono ?_; rintro e w' ⟨rfl, rfl⟩)
            go_ret3
            rw [ST.out, if_neg (by omega)]
            exact ⟨rfl, rfl⟩
      · have hend := gvf_end (t := bts s a) (k := k) (by rw [htl.out]; omega)
        rw [← HG.out] at hend
        have h6I : (k : Int) < 6 := by omega
        have hlI : ¬ (k : Int) < (s.size : Int) - (a : Int) := by omega
        have HE := hide hend
        clear hend
        go_wp2
        go_ret3
        rw [HE.out]
        exact ⟨rfl, rfl⟩
    · have hend := gvf_six (t := bts s a) (k := k) (by omega)
      rw [← HG.out] at hend
      have h6I : ¬ (k : Int) < 6 := by omega
      have HE := hide hend
      clear hend
      go_wp2
      go_ret3
      rw [HE.out]
      exact ⟨rfl, rfl⟩
end Go.Proofs.YtapffbbmofhpoaaDoor.L1

namespace Go.Proofs.YtapffbbmofhpoaaDoor.L1
open Go.RowKit
set_option linter.unusedVariables false

def lgRes (a : Nat) : Option (List Int) → Value
  | none => .tuple #[.int .i64 0, .int .i64 (-1)]
  | some l => .tuple #[.int .i64 (zag (val l)), .int .i64 ((a + l.length : Nat) : Int)]
theorem lgRes_some {a k : Nat} {l : List Int} {v : Int} (hv : val l = v) (hl : l.length = k + 1) : lgRes a (some l) = .tuple #[.int .i64 (zag v), .int .i64 ((a : Int) + (k : Int) + 1)] := by
  subst hv
  simp only [lgRes, hl]
  congr 4

theorem tdiv_zag7 (z : Int) (h : 0 ≤ z) (h2 : z ≤ 1125899906842624) (ho : z % 2 = 1) : wrap64 (-(z + 1).tdiv 2) = zag z := by
  unfold zag
  rw [if_pos ho, Int.tdiv_eq_ediv_of_nonneg (by omega)]
  unfold wrap64
  omega

set_option maxRecDepth 100000 in
set_option maxHeartbeats 400000 in
theorem l1Zag_any (z : Int) (w : World) (h1 : 0 ≤ z) (h2 : z ≤ 1125899906842624) :
    Calls Tryd.prog 96 #[.int .i64 z] w fun e w' => e = .returned (.int .i64 (zag z)) ∧ w = w' := by
  by_cases h : z % 2 = 1
  · have e := tdiv_zag7 z h1 h2 h
    have E := hide e
    clear e
    go_enter Tryd.func96, Tryd.ntmps96
    go_wp2
    go_ret
    rw [← E.out]
    exact ⟨rfl, rfl⟩
  · have e : zag z = z / 2 := by unfold zag; rw [if_neg h]
    rw [e]
    clear e
    go_enter Tryd.func96, Tryd.ntmps96
    go_wp2
    go_ret
    exact ⟨rfl, rfl⟩

theorem slice_nat (w : World) (s : ByteArray) (a k : Nat) (h : a + k < s.size) :
    (Instr.slice 9 (.string s) (some (.int .i64 (a : Int))) (some (.int .i64 ((a : Int) + (k : Int) + 1))) none).run Tryd.prog w = .ok (.string (s.extract a (a + k + 1))) w := by
  have h := run_slice_string (P := Tryd.prog) w 9 s .i64 .i64 (a : Int) ((a : Int) + (k : Int) + 1) Tryd.underlying9 (by omega) (by omega) (by omega)
  rw [h]
  congr 4
attribute [local go_sem ↓] slice_nat
set_option maxRecDepth 100000 in
set_option maxHeartbeats 1000000 in
theorem l1Get_any (s : ByteArray) (a : Nat) (w : World) (ha : a < s.size) (hs : s.size ≤ 1048576) :
    Calls Tryd.prog 81 #[.string s, .int .i64 a] w fun e w' => e = .returned (lgRes a (gv (bts s a))) ∧ Below w.heap.size w w' := by
  have hI : (a : Int) < (s.size : Int) := by omega
  have htl := hide (bts_len s a)
  go_enter Tryd.func81, Tryd.ntmps81
  go_wp2
  go_loop [6, 7, 8] (fun z by_ i => ∃ j : Nat, j ≤ 7 ∧ j ≤ s.size - a ∧ i = .int .i64 ((a : Int) + (j : Int)) ∧ by_ = .int .i64 (wor j) ∧ z = .int .i64 (val ((bts s a).take j)) ∧ Hid (Hi ((bts s a).take j)) ∧ Hid (gv (bts s a) = gvf (6 - j) ((bts s a).take j) ((bts s a).drop j))) (fun _ _ i => a + 7 - (intOf i).toNat)
  case atStart => exact ⟨0, by omega, by omega, by simp, rfl, rfl, fun x hx => by simp at hx, rfl⟩
  case round =>
    obtain ⟨k, hk7, hkl, rfl, rfl, rfl, HH, HG⟩ := hrel
    by_cases hl : k < s.size - a
    · by_cases h7 : k < 7
      · have hlt : a + k < s.size := by omega
        have hb := bts_get s a k hlt
        have hbb := bts_byte s a k
        have hd := digit_bd ((bts s a).getD k 0) k (by omega)
        have hv := val_bd7 (bts s a) k (by rw [htl.out]; omega) (by omega)
        have h7I : (k : Int) < 7 := by omega
        have h7J : (a : Int) + (k : Int) < (a : Int) + 7 := by omega
        have hlI : (a : Int) + (k : Int) < (s.size : Int) := by omega
        have hb1I : (a : Int) ≤ (a : Int) + (k : Int) + 1 := by omega
        have hb2I : (a : Int) + (k : Int) + 1 ≤ (s.size : Int) := by omega
        have hb3I : (0 : Int) ≤ (a : Int) := by omega
        have hwr : IntKind.i64.wrap ((a : Int) + (k : Int) + 1) = (a : Int) + (k : Int) + 1 := by
          simp [IntKind.wrap, IntKind.bits, IntKind.signed]
          omega
        have hw1 := wor_pos k
        have hw2 : wor k ≤ 4398046511104 := by
          have : wor k ≤ wor 6 := wor_le (by omega)
          simpa [wor] using this
        obtain ⟨b, hbe⟩ : ∃ b, b = (bts s a).getD k 0 := ⟨_, rfl⟩
        rw [← hbe] at hb hbb hd
        obtain ⟨v, hve⟩ : ∃ v, v = val ((bts s a).take k) := ⟨_, rfl⟩
        rw [← hve] at hv ⊢
        have HB := hide hbe
        have HV := hide hve
        obtain ⟨hb0, hb1⟩ := hbb
        obtain ⟨hd0, hd1⟩ := hd
        obtain ⟨hv0, hv1⟩ := hv
        have hb' := hb.symm
        have hand := u8_and127 b hb0 hb1
        clear hbe hve hb
        by_cases h128 : b < 128
        · have hsep := vd_sep k (bts s a) (by rw [htl.out]; omega) h7 HH.out (by rw [← HB.out]; omega) (by rw [← HB.out]; omega)
          rw [← HG.out] at hsep
          have hst : val ((bts s a).take (k + 1)) = v + b % 128 * wor k := by rw [val_take _ _ (by rw [htl.out]; omega), ← HB.out, ← HV.out]
          rw [hst] at hsep
          have hsl : ((bts s a).take (k + 1)).length = k + 1 := by rw [List.length_take, htl.out]; omega
          have hpc := str_piece s a (k + 1) (by omega)
          have hmem : ∀ x ∈ (bts s a).take (k + 1), 0 ≤ x ∧ x < 256 := fun x hx => bts_mem s a x (List.mem_of_mem_take hx)
          have ST := hide hsep
          have VT := hide hst
          have SL := hide hsl
          have PC := hide hpc
          have ME := hide hmem
          clear hsep hst hsl hpc hmem HH HG
          by_cases hz : v + b % 128 * wor k ≤ 2000000000000
          · have hd : decide (2000000000000 < v + b % 128 * wor k) = false := by simp; omega
            have hzl := zag_lo (v + b % 128 * wor k) (by omega) hz
            have hvc := fun wx => l1Varint_any (zag (v + b % 128 * wor k)) wx hzl.1 hzl.2
            rw [zig_zag _ (by omega)] at hvc
            have hdec : vd (v + b % 128 * wor k) = (bts s a).take (k + 1) ↔ strOfNums (vd (v + b % 128 * wor k)) = s.extract a (a + k + 1) :=
              ⟨fun h => by rw [h]; exact PC.out, fun h => str_inj (vdf_byte 5 _ (by omega) (by simp [wor]; omega)) ME.out (h.trans PC.out.symm)⟩
            obtain ⟨A, hA⟩ : ∃ A, A = strOfNums (vd (v + b % 128 * wor k)) := ⟨_, rfl⟩
            rw [← hA] at hvc hdec
            have VC := hide hvc
            have DE := hide hdec
            clear hA hvc hdec
            by_cases hAB : A = s.extract a (a + k + 1)
            · have hcmp : (A.toList == (s.extract a (a + k + 1)).toList) = true := by rw [hAB]; simp
              have HQ := hide hAB
              clear hAB
              go_wp2_with (go_at_call 96; refine (l1Zag_any _ _ (by omega) (by omega)).mono ?_; rintro e w' ⟨rfl, rfl⟩)
              go_region_held3 (fun _ => True) (trivial) ((go_at_call 76; refine (unhide VC _).mono ?_; rintro e w1 ⟨rfl, hb⟩))
              go_wp2
              go_ret2
              rw [ST.out, if_pos ⟨hz, DE.out.2 HQ.out⟩, lgRes_some VT.out SL.out]
              exact ⟨rfl, (Below.drew (Below.refl _ _)).trans (by assumption)⟩
            · have hcmp : (A.toList == (s.extract a (a + k + 1)).toList) = false := by
                apply Bool.eq_false_iff.2
                intro h
                exact hAB (L1.toList_inj (eq_of_beq h))
              have HN := hide hAB
              clear hAB
              go_wp2_with (go_at_call 96; refine (l1Zag_any _ _ (by omega) (by omega)).mono ?_; rintro e w' ⟨rfl, rfl⟩)
              go_region_held3 (fun _ => True) (trivial) ((go_at_call 76; refine (unhide VC _).mono ?_; rintro e w1 ⟨rfl, hb⟩))
              go_wp2
              go_ret2
              rw [ST.out, if_neg (fun h => HN.out (DE.out.1 h.2))]
              exact ⟨rfl, (Below.drew (Below.refl _ _)).trans (by assumption)⟩
          · have hz' : 2000000000000 < v + b % 128 * wor k := by omega
            have hd : decide (2000000000000 < v + b % 128 * wor k) = true := by simp; omega
            go_wp2_with (go_at_call 96; refine (l1Zag_any _ _ (by omega) (by omega)).mono ?_; rintro e w' ⟨rfl, rfl⟩)
            go_quiet (fail)
            go_wp2
            go_ret2
            rw [ST.out, if_neg (by omega)]
            exact ⟨rfl, below_drewN (Below.refl _ _) _⟩
        · go_wp2
          go_round
          case rel =>
            refine ⟨k + 1, by omega, by omega, by go_num, ?_, ?_, ?_, ?_⟩
            · show Value.int .i64 (wor k * 128) = .int .i64 (128 * wor k)
              rw [Int.mul_comm]
            · rw [val_take _ _ (by rw [htl.out]; omega), ← HB.out, ← HV.out]
            · exact hi_take (by rw [htl.out]; omega) HH.out (by rw [← HB.out]; omega) (by rw [← HB.out]; exact hb1)
            · by_cases h6 : k < 6
              · exact HG.out.trans (gvf_on (by rw [htl.out]; omega) h6 (by rw [← HB.out]; omega))
              · rw [HG.out]
                show _ = _
                rw [gvf_six (by omega), gvf_six (by omega)]
          case measure => simp [intOf]; omega
      · have hend := gvf_six (t := bts s a) (k := k) (by omega)
        rw [← HG.out] at hend
        have h7J : ¬ (a : Int) + (k : Int) < (a : Int) + 7 := by omega
        have hlI : (a : Int) + (k : Int) < (s.size : Int) := by omega
        have HE := hide hend
        clear hend
        go_wp2
        go_ret2
        rw [HE.out]
        exact ⟨rfl, Below.refl _ _⟩
    · have hend := gvf_end (t := bts s a) (k := k) (by rw [htl.out]; omega)
      rw [← HG.out] at hend
      have hlI : ¬ (a : Int) + (k : Int) < (s.size : Int) := by omega
      have HE := hide hend
      clear hend
      go_wp2
      go_ret2
      rw [HE.out]
      exact ⟨rfl, Below.refl _ _⟩
end Go.Proofs.YtapffbbmofhpoaaDoor.L1
