/-
  Contracts of the specification's draws DrawAppendChunk and DrawJoinChunks: each returns, within the bounds told, and turns nothing that was there.
-/
import Derived.Test.YtapffbbmofhpoaaDoorL2Draws
import Derived.Deep.RegionWith
namespace Go.Proofs.YtapffbbmofhpoaaDoor.L1
open Go.RowKit
set_option linter.unusedVariables false

theorem blk_newR (w : World) (o : Obj) : (w.alloc o).heap[w.heap.size]? = some o := by
  show (w.heap.push o)[w.heap.size]? = some o
  exact Array.getElem?_push_size
theorem blk2R {w : World} {g : Nat} {a b : Value} {t : TypeId} (h : w.heap[g]? = some (.cells #[a, b] t (0, 0))) :
    w.cell? ⟨g, 0, none⟩ = some a ∧ w.cell? ⟨g, 1, none⟩ = some b ∧ w.frozen? ⟨g, 0, none⟩ = false ∧ w.frozen? ⟨g, 1, none⟩ = false := by
  simp [World.cell?, World.frozen?, h]

set_option maxRecDepth 100000 in
set_option maxHeartbeats 1000000 in
theorem drawAppendChunk_any (a : Option Addr) (n cap : Nat) (w : World) (h : Slb w w.heap.size a n) (hn : n ≤ 1048576) :
    Calls Tryd.prog 54 #[.slice a n cap] w fun e w' => ∃ (u : ByteArray) (x y : Int), e = .returned (.tuple #[.string u, .agg #[.int .i64 x, .int .i64 y]]) ∧ u.size ≤ 488 ∧ 0 ≤ x ∧ x ≤ 50000 ∧ 0 ≤ y ∧ y ≤ 99 ∧ Below w.heap.size w w' := by
  have hb0 := (Below.refl w.heap.size w).alloc (Nat.le_refl _) (.cells #[.int .i64 0, .int .i64 0] 50 (0, 0))
  have HC := hide (cur_new (cap := cap) (w := w.alloc (.cells #[.int .i64 0, .int .i64 0] 50 (0, 0))) (h.below hb0) hn)
  have R0 : Hid ((w.alloc (.cells #[.int .i64 0, .int .i64 0] 50 (0, 0))).heap[w.heap.size]? = some (.cells #[.int .i64 0, .int .i64 0] 50 (0, 0))) := hide (blk_newR _ _)
  have HB0 := hide hb0
  rw [World.size_alloc] at HC
  clear h hb0
  go_enter Tryd.func54, Tryd.ntmps54
  go_wp2_with fail
  refine (chunk_any _ _ _ HC.out (by omega)).mono ?_
  rintro e w1 ⟨u, rfl, hu, hc1, hg1⟩
  have C1 := hide hc1
  have G1 := hide hg1
  have SA := hide (lit_row w1 #[.int .i64 0, .int .i64 50, .int .i64 2000, .int .i64 50000] [0, 50, 2000, 50000] rfl)
  have CA := hide (C1.out.alloc (.cells #[.int .i64 0, .int .i64 50, .int .i64 2000, .int .i64 50000] 3))
  have hlt := C1.out.lt
  clear hc1 hg1 HC
  go_wp2_with fail
  refine (among_any _ _ w1.heap.size 4 4 [0, 50, 2000, 50000] _ CA.out (by omega) rfl (by omega) (by omega) (by omega) SA.out).mono ?_
  rintro e w2 ⟨j, hj, rfl, hc2, hg2⟩
  have hz := (by decide : ∀ j, j < 4 → (0 : Int) ≤ ([0, 50, 2000, 50000] : List Int).getD j 0 ∧ ([0, 50, 2000, 50000] : List Int).getD j 0 ≤ 50000) j hj
  obtain ⟨x, hxe⟩ : ∃ x, x = ([0, 50, 2000, 50000] : List Int).getD j 0 := ⟨_, rfl⟩
  rw [← hxe] at hz ⊢
  have C2 := hide hc2
  have G2 := hide (grown_trans (grown_trans G1.out (grown_alloc w1 (.cells #[.int .i64 0, .int .i64 50, .int .i64 2000, .int .i64 50000] 3) _)) hg2)
  clear hxe hc2 hg2 C1 G1 SA CA hj hlt
  go_wp2_with fail
  refine (pick_any _ _ 100 _ C2.out (by omega) (by omega) (by omega)).mono ?_
  rintro e w3 ⟨y, rfl, hy0, _, hy1, hc3, hg3⟩
  have hy1' := hy1 (by omega)
  have G3 := hide (grown_trans G2.out hg3)
  clear hc3 hg3 hy1 C2 G2
  have hbel : Below (w.heap.size + 1) (w.alloc (.cells #[.int .i64 0, .int .i64 0] 50 (0, 0))) w3 := by
    have := grown_to_below (w := w.alloc (.cells #[.int .i64 0, .int .i64 0] 50 (0, 0))) (by rw [World.size_alloc]; exact G3.out)
    rw [World.size_alloc] at this
    exact this
  obtain ⟨z0, z1, z2, z3⟩ := blk2R ((hbel.block w.heap.size (by omega)).trans R0.out)
  have B3 := hide (HB0.out.trans (hbel.mono (by omega)))
  clear hbel
  go_wp2
  refine bodyPost_ret (v := .tuple #[.string u, .agg #[.int .i64 x, .int .i64 y]]) (by simp [results, Tryd.f54, go_sem, z0, z1]) rfl ⟨u, x, y, rfl, hu, hz.1, hz.2, hy0, by omega, ?_⟩
  exact (B3.out.setCell (p := ⟨_, _, none⟩) (Nat.le_refl _) _).setCell (p := ⟨_, _, none⟩) (Nat.le_refl _) _

/-- Where a call of among finds its row. -/
def JB (w : World) (xs : List Int) (wx : World) : Prop := Below w.heap.size w wx ∧ Sl wx (some ⟨w.heap.size, 0, none⟩) xs
theorem jb_of {w : World} {cs : Array Value} {xs : List Int} (h : cs.toList = xs.map (Value.int .i64)) : JB w xs (w.alloc (.cells cs 3)) := ⟨(Below.refl _ _).alloc (Nat.le_refl _) _, lit_row w cs xs h⟩
theorem jb_drew {w : World} {xs : List Int} {wx : World} (h : JB w xs wx) : JB w xs wx.drew := ⟨h.1.drew, fun i hi => h.2 i hi⟩
theorem jb_ofd {w : World} {cs : Array Value} {xs : List Int} (h : cs.toList = xs.map (Value.int .i64)) : JB w xs (w.drew.alloc (.cells cs 3)) := ⟨(Below.refl w.heap.size w).drew.alloc (Nat.le_refl _) _, lit_row w.drew cs xs h⟩
theorem jb_ofd2 {w : World} {cs : Array Value} {xs : List Int} (h : cs.toList = xs.map (Value.int .i64)) : JB w xs (w.drew.drew.alloc (.cells cs 3)) := ⟨((Below.refl w.heap.size w).drew).drew.alloc (Nat.le_refl _) _, lit_row w.drew.drew cs xs h⟩

/-- spec.EncodeChunk of few samples: a text that is not long. -/
theorem specEncode_few (a : Option Addr) (l : List (Int × Int)) (n cap : Nat) (w : World) (hn : l.length = n) (hs : Sl2 w a l) (hn2 : n ≤ 41) :
    Calls Tryd.prog 36 #[.slice a n cap] w fun e w' => ∃ (u : ByteArray) (ok : Bool), e = .returned (.tuple #[.string u, .bool ok]) ∧ u.size ≤ 486 ∧ Below w.heap.size w w' := by
  by_cases hg : GoodS l
  · refine (specEncode_yes a l n cap w hn hs hg).mono ?_
    rintro e w' ⟨rfl, hb'⟩
    refine ⟨_, _, rfl, ?_, hb'⟩
    rw [strOfNums_size]
    have h1 := cat_len (nums l)
    have h2 := nums_len l
    have := hg.1
    omega
  · refine (specEncode_no a l n cap w hn hs (by omega) hg).mono ?_
    rintro e w' ⟨rfl, hb'⟩
    exact ⟨_, _, rfl, by show 0 ≤ 486; omega, hb'⟩

/-- Samples, not too great, of which some have been put on. -/
def PutOn (l : List (Int × Int)) (k : Nat) : Prop := ∀ j, k ≤ j → j < l.length → -2000000000 ≤ (l.getD j (0, 0)).1 ∧ (l.getD j (0, 0)).1 ≤ 2000000000
/-- Where the loop of DrawJoinChunks stands. -/
structure JAt (w : World) (b B1 B2 : Nat) (va vb : Value) (la : List (Int × Int)) (nb k N : Nat) (wr : World) : Prop where
  cur : Cur wr b (N + 2 * k)
  own : ∃ l : List (Int × Int), l.length = nb ∧ PutOn l k ∧ wr.ownsRow B2 50 2 vb nb (flat2 l)
  oth : wr.ownsRow B1 50 2 va la.length (flat2 la)
  bel : Below w.heap.size w wr
  sz : B2 ≤ wr.heap.size
theorem cell_setR {w : World} {B g nb cap : Nat} {l : List (Int × Int)} (h : w.ownsRow B 50 2 (.slice (some ⟨g, 0, none⟩) nb cap) nb (flat2 l)) (k : Nat) (hk : k < nb) (hl : l.length = nb) (x : Int) :
    (w.setCell ⟨g, k * 2, none⟩ (.int .i64 x)).ownsRow B 50 2 (.slice (some ⟨g, 0, none⟩) nb cap) nb (flat2 (l.set k (x, (l.getD k (0, 0)).2))) ∧ w.grownBy (w.setCell ⟨g, k * 2, none⟩ (.int .i64 x)) (some g) := by
  have h1 := h.stored (k * 2) (.int .i64 x)
  refine ⟨?_, h1.2⟩
  rw [flat2_setD]
  have e : ((flat2 l).set (k * 2) (.int .i64 x)).set (k * 2 + 1) (.int .i64 (l.getD k (0, 0)).2) = (flat2 l).set (k * 2) (.int .i64 x) := by
    apply List.ext_getElem?
    intro j
    by_cases ej : j = k * 2 + 1
    · subst ej
      have hlen : (flat2 l).length = l.length * 2 := flat2_len l
      rw [List.getElem?_set_self (by simp; omega), List.getElem?_set_ne (by omega)]
      exact ((flat2_get l k (by omega)).2).symm
    · rw [List.getElem?_set_ne (by omega)]
  show World.ownsRow _ _ _ _ _ _ (((flat2 l).set (k * 2) (.int .i64 x)).set (k * 2 + 1) (.int .i64 (l.getD k (0, 0)).2))
  rw [e]
  exact h1.1
theorem own_keptR {w w' : World} {base c n : Nat} {t : TypeId} {v : Value} {xs : List Value} {r : Option Nat} (h : w.ownsRow base t c v n xs) (hg : w.grownBy w' r) (hne : ∀ g, v.ownBlock = some g → r ≠ some g) : w'.ownsRow base t c v n xs := by
  refine ⟨h.1, ?_⟩
  rcases h.2 with h0 | ⟨g, cap, cur, hv, hb, hh, rest⟩
  · exact .inl h0
  · refine .inr ⟨g, cap, cur, hv, hb, ?_, rest⟩
    rw [hg.block g (Array.getElem?_eq_some_iff.1 hh).1 (fun e => hne g (by rw [hv]; rfl) e.symm)]
    exact hh
theorem JAt.step {w wr w2 : World} {b B1 B2 g cb : Nat} {va : Value} {la l : List (Int × Int)} {nb k N : Nat} {z : Int} (h : JAt w b B1 B2 va (.slice (some ⟨g, 0, none⟩) nb cb) la nb k N wr) (hl : l.length = nb) (hp : PutOn l k) (ho : wr.ownsRow B2 50 2 (.slice (some ⟨g, 0, none⟩) nb cb) nb (flat2 l)) (hk : k < nb) (hbw : b = w.heap.size) (h1 : b < B1) (h2 : b < B2) (hva : ∀ q, va.ownBlock = some q → q < B2) (hc : Cur w2 b (N + 2 * k + 2)) (hg : wr.grownBy w2 (some b)) :
    (w2.cell? ⟨g, k * 2, none⟩ = some (.int .i64 (l.getD k (0, 0)).1) ∧ w2.frozen? ⟨g, k * 2, none⟩ = false) ∧ JAt w b B1 B2 va (.slice (some ⟨g, 0, none⟩) nb cb) la nb (k + 1) N (w2.setCell ⟨g, k * 2, none⟩ (.int .i64 ((l.getD k (0, 0)).1 + z))) := by
  have hgB : B2 ≤ g := (ho.lt g rfl).1
  have o2 := own_grownG ho hg h2
  have a2 := own_grownG h.oth hg h1
  have hcl := o2.cellAt (k * 2) (by omega)
  have hfr := o2.frozenAt (k * 2)
  rw [(flat2_get l k (by omega)).1] at hcl
  have st := cell_setR o2 k hk hl ((l.getD k (0, 0)).1 + z)
  refine ⟨⟨hcl, hfr⟩, ?_, ⟨l.set k ((l.getD k (0, 0)).1 + z, (l.getD k (0, 0)).2), by simpa using hl, ?_, st.1⟩, own_keptR a2 st.2 (fun q hq e => ?_), ?_, ?_⟩
  · have : Cur (w2.setCell ⟨g, k * 2, none⟩ (.int .i64 ((l.getD k (0, 0)).1 + z))) b (N + 2 * k + 2) := hc.kept fun q hq => Below.heap_setCell _ _ _ _ (by show q ≠ g; omega)
    exact this.mono (by omega)
  · intro j hj hjl
    have hjl' : j < l.length := by simpa using hjl
    have e : (l.set k ((l.getD k (0, 0)).1 + z, (l.getD k (0, 0)).2)).getD j (0, 0) = l.getD j (0, 0) := by simp [List.getD, List.getElem?_set_ne (show k ≠ j by omega)]
    rw [e]
    exact hp j (by omega) hjl'
  · cases e
    have := hva g hq
    omega
  · have hb2 : Below w.heap.size w w2 := by
      refine ⟨hg.os.trans h.bel.os, hg.tape.trans h.bel.tape, hg.output.trans h.bel.output, Nat.le_trans h.bel.size hg.size, fun q hq => (hg.block q (Nat.lt_of_lt_of_le hq h.bel.size) (fun e => ?_)).trans (h.bel.block q hq)⟩
      cases e
      omega
    exact hb2.setCell (p := ⟨g, k * 2, none⟩) (by show w.heap.size ≤ g; omega) _
  · have e : (w2.setCell ⟨g, k * 2, none⟩ (.int .i64 ((l.getD k (0, 0)).1 + z))).heap.size = w2.heap.size := by simp
    rw [e]
    exact Nat.le_trans h.sz hg.size

set_option maxRecDepth 100000 in
set_option maxHeartbeats 4000000 in
theorem drawJoinChunks_any (a : Option Addr) (n cap : Nat) (w : World) (h : Slb w w.heap.size a n) (hn : n ≤ 1048576) :
    Calls Tryd.prog 56 #[.slice a n cap] w fun e w' => ∃ (u t : ByteArray), e = .returned (.tuple #[.string u, .string t]) ∧ u.size ≤ 486 ∧ t.size ≤ 486 ∧ Below w.heap.size w w' := by
  have HC := hide (cur_new (cap := cap) h hn)
  have HB0 := hide ((Below.refl w.heap.size w).alloc (Nat.le_refl _) (.cells #[.slice a n cap, .int .i64 0, .int .u64 0] 79))
  clear h
  go_enter Tryd.func56, Tryd.ntmps56
  go_wp2_with fail
  refine (samples_any _ _ _ HC.out (by omega)).mono ?_
  rintro e w1 ⟨va, rfl, ⟨la, hla, _, hoa⟩, hc1, hg1⟩
  rw [World.size_alloc] at hoa
  have hsz1 : w.heap.size + 1 ≤ w1.heap.size := by have := hg1.size; simpa using this
  have HG1 := hide hg1
  have C1 := hide hc1
  obtain ⟨aa, ca, rfl⟩ := (show ∃ aa ca, va = .slice aa la.length ca by obtain ⟨x, y, e, _⟩ := own_formS hoa; exact ⟨x, y, e⟩)
  have OA := hide hoa
  have HVA := hide (fun q hq => (hoa.lt q hq).2)
  clear hoa hc1 hg1 HC
  go_wp2_with fail
  refine (samples_any _ _ _ C1.out (by omega)).mono ?_
  rintro e w2 ⟨vb, rfl, ⟨lb, hlb, hbd, hob⟩, hc2, hg2⟩
  obtain ⟨nb, hnb⟩ : ∃ nb, nb = lb.length := ⟨_, rfl⟩
  rw [← hnb] at hob hlb
  obtain ⟨ab, cb, rfl⟩ := (show ∃ ab cb, vb = .slice ab nb cb by obtain ⟨x, y, e, _⟩ := own_formS hob; exact ⟨x, y, e⟩)
  have OB := hide hob
  have C2 := hide hc2
  have JJ : Hid (JAt w w.heap.size (w.heap.size + 1) w1.heap.size (.slice aa la.length ca) (.slice ab nb cb) la nb 0 2000 w2) := by
    refine ⟨?_, ⟨lb, hnb.symm, fun j _ hj => ?_, hob⟩, own_grownG OA.out hg2 (by omega), ?_, hg2.size⟩
    · exact hc2.mono (by omega)
    · have := hbd (lb.getD j (0, 0)) (by simp only [List.getD, List.getElem?_eq_getElem hj, Option.getD_some]; exact List.getElem_mem hj)
      exact this.1
    · have hg02 := grown_trans HG1.out hg2
      exact grown_to_below hg02
  clear hob hc2 hg2 hbd hnb C1 HG1 C2 OB OA HB0
  go_wp2_with fail
  go_loopw [21] (fun i wr => ∃ k : Nat, k ≤ nb ∧ i = .int .i64 k ∧ JAt w w.heap.size (w.heap.size + 1) w1.heap.size (.slice aa la.length ca) (.slice ab nb cb) la nb k 2000 wr) (fun i _ => nb - (intOf i).toNat)
  case atStart => exact ⟨0, Nat.zero_le _, rfl, JJ.out⟩
  case round =>
    obtain ⟨k, hk, rfl, hat⟩ := hrel
    obtain ⟨l, hl, hp, ho⟩ := hat.own
    by_cases hlt : k < nb
    · have hltI : (k : Int) < (nb : Int) := by omega
      have hk0 : (0 : Int) ≤ (k : Int) := by omega
      obtain ⟨g, rfl⟩ : ∃ g, ab = some ⟨g, 0, none⟩ := by
        rcases ho.2 with ⟨_, h0⟩ | ⟨g, cap2, cur, hv, _⟩
        · omega
        · cases hv; exact ⟨g, rfl⟩
      have hpk := hp k (Nat.le_refl _) (by omega)
      have CC : Hid (∀ wx, JB wr [0, 20000, 20000] wx → Calls Tryd.prog 89 #[.pointer (some ⟨w.heap.size, 0, none⟩), .slice (some ⟨wr.heap.size, 0, none⟩) 3 3] wx fun e w2 => ∃ z : Int, e = .returned (.int .i64 z) ∧ (0 ≤ z ∧ z ≤ 20000) ∧ (w2.cell? ⟨g, k * 2, none⟩ = some (.int .i64 (l.getD k (0, 0)).1) ∧ w2.frozen? ⟨g, k * 2, none⟩ = false) ∧ JAt w w.heap.size (w.heap.size + 1) w1.heap.size (.slice aa la.length ca) (.slice (some ⟨g, 0, none⟩) nb cb) la nb (k + 1) 2000 (w2.setCell ⟨g, k * 2, none⟩ (.int .i64 ((l.getD k (0, 0)).1 + z)))) := fun wx hj => by
        refine (among_any w.heap.size (2000 + 2 * k) wr.heap.size 3 3 [0, 20000, 20000] wx (hat.cur.below hj.1) (by omega) rfl (by omega) (by omega) (by have := hat.sz; omega) hj.2).mono ?_
        rintro e w2 ⟨j, hj', rfl, hc', hg'⟩
        have hz := (by decide : ∀ j, j < 3 → (0 : Int) ≤ ([0, 20000, 20000] : List Int).getD j 0 ∧ ([0, 20000, 20000] : List Int).getD j 0 ≤ 20000) j hj'
        have st := hat.step (z := ([0, 20000, 20000] : List Int).getD j 0) hl hp ho hlt rfl (by omega) (by omega) HVA.out hc' (grown_trans (below_grown hj.1) hg')
        exact ⟨_, rfl, hz, st.1, st.2⟩
      have hcl := ho.cellAt (k * 2) (by omega)
      have hfr := ho.frozenAt (k * 2)
      rw [(flat2_get l k (by omega)).1] at hcl
      obtain ⟨x, hx⟩ : ∃ x, x = (l.getD k (0, 0)).1 := ⟨_, rfl⟩
      rw [← hx] at hcl CC hpk
      have hal : ∀ ob, (wr.alloc ob).cell? ⟨g, k * 2, none⟩ = some (.int .i64 x) := fun ob => Go.Lib.cell?_alloc_some ob hcl
      obtain ⟨hx0, hx1⟩ := hpk
      clear hx hat hp ho hl
      go_upto_region 7 with fail
      go_region_with (go_at_call 89; refine (CC.out _ ?_).mono ?_; (first | exact jb_of rfl | exact jb_drew (jb_of rfl) | exact jb_ofd rfl | exact jb_drew (jb_ofd rfl) | exact jb_ofd2 rfl | exact jb_drew (jb_drew (jb_of rfl))); rintro e w3 ⟨z, rfl, ⟨hz0, hz1⟩, ⟨c0, c1⟩, P⟩)
      all_goals (
        go_wp2
        go_roundw
        case rel => exact ⟨k + 1, by omega, by go_num, P⟩
        case measure => simp [intOf]; omega)
    · obtain rfl : k = nb := by omega
      have hltI : ¬ (k : Int) < (k : Int) := by omega
      have SA := hide (show Sl2 wr aa la by obtain ⟨x, y, e, s, _⟩ := own_formS hat.oth; cases e; exact s)
      have SB := hide (show Sl2 wr ab l by obtain ⟨x, y, e, s, _⟩ := own_formS ho; cases e; exact s)
      have HB := hide hat.bel
      have HL := hide hl
      clear hat hp ho hl
      go_wp2_with fail
      refine (specEncode_few aa la la.length ca _ rfl SA.out (by omega)).mono ?_
      rintro e w3 ⟨u, ok, rfl, hu, hb3⟩
      have SB3 := hide (SB.out.below hb3)
      have HB3 := hide (HB.out.trans (hb3.mono HB.out.size))
      clear hb3 SA SB HB
      go_wp2_with fail
      refine (specEncode_few ab l k cb _ HL.out SB3.out (by omega)).mono ?_
      rintro e w4 ⟨t, ok2, rfl, ht, hb4⟩
      have HB4 := hide (HB3.out.trans (hb4.mono HB3.out.size))
      clear hb4 SB3 HB3
      go_wp2
      go_ret2
      exact ⟨u, t, rfl, hu, ht, HB4.out⟩
end Go.Proofs.YtapffbbmofhpoaaDoor.L1
