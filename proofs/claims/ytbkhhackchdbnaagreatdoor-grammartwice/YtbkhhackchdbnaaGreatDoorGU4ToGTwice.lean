import Derived.Test.YtbkhhackchdbnaaGreatDoorGU1ToGU3
import Derived.Test.YtbkhhackchdbnaaGreatDoorGSame3ToGSame6
import Derived.Test.YtbkhhackchdbnaaGreatDoorGSmallToGAlive2
import Derived.Test.YtbkhhackchdbnaaGreatDoorGUsesToGSum
import Derived.Deep.RegionHeld3
namespace Go.Proofs.YtbkhhackchdbnaaGreatDoor
set_option linter.unusedVariables false
open Go.RowKit

set_option maxRecDepth 100000 in
set_option maxHeartbeats 2000000 in
theorem back_law (bo : Option Addr) (cb : Nat) (l : List Int) (w : World) (hl : l.length ≤ 1048576) (hi : InRow w bo l) (hp : ∀ i, i < l.length → 0 ≤ l.getD i 0 ∧ l.getD i 0 < l.length) :
    Calls Tryz.prog 26 #[.slice bo l.length cb] w fun e w' => ∃ b, e = .returned (.slice (some ⟨b, 0, none⟩) l.length l.length) ∧ w.heap.size ≤ b ∧ RB w' b 3 ((backU l).map (.int .i64 ·)) ∧ Below w.heap.size w w' := by
  have hmk := make_int l.length hl
  have HR : Hid (InRow w bo l) := hi
  have HP : Hid (∀ i, i < l.length → 0 ≤ l.getD i 0 ∧ l.getD i 0 < l.length) := hp
  clear hi hp
  go_enter Tryz.func26, Tryz.ntmps26
  go_wp2
  go_loopw [4] (fun z wr => ∃ k : Nat, k ≤ l.length ∧ z = .int .i64 k ∧ RB wr w.heap.size 3 ((bkU l k).map (.int .i64 ·)) ∧ Below w.heap.size w wr) (fun z _ => l.length - (intOf z).toNat)
  case atStart => exact ⟨0, Nat.zero_le _, rfl, by rw [bkU, List.map_replicate]; exact RB.made w (.int .i64 0) l.length 3, below_alloc _ _⟩
  case round =>
    obtain ⟨k, hk, rfl, hb, hB⟩ := hrel
    have HB : Hid (RB wr w.heap.size 3 ((bkU l k).map (.int .i64 ·)) ∧ Below w.heap.size w wr) := ⟨hb, hB⟩
    by_cases hlt : k < l.length
    · obtain ⟨b2, o2, rfl, l2, q2⟩ := (HR.out.later hB) (by intro e; rw [e] at hlt; simp at hlt)
      have c2 := q2 k hlt
      obtain ⟨p1, p2⟩ := HP.out k hlt
      have HT : Hid ((l.getD k 0).toNat < l.length) := by show _ < _; omega
      have x1 : wr.frozen? ⟨w.heap.size, (l.getD k 0).toNat, none⟩ = false := hb.free _
      have x2 : ∃ u, wr.cell? ⟨w.heap.size, (l.getD k 0).toNat, none⟩ = some (.int .i64 u) := by
        have hlen : (l.getD k 0).toNat < (bkU l k).length := by rw [bkU_len]; exact HT.out
        exact ⟨_, hb.cell (i := (l.getD k 0).toNat) (u := .int .i64 _) (by rw [List.getElem?_map, List.getElem?_eq_getElem hlen]; rfl)⟩
      obtain ⟨u, x2⟩ := x2
      have x3 : w.heap.size < wr.heap.size := hb.lt
      clear hb hB q2
      generalize hN : l.getD k 0 = m at *
      have HNS : Hid (l.getD k 0 = m) := hN
      clear hN
      obtain ⟨mn, rfl⟩ : ∃ mn : Nat, m = (mn : Int) := ⟨m.toNat, by omega⟩
      simp only [Int.toNat_natCast] at x1 x2 HT
      have p3 : mn < l.length := HT.out
      go_wp2
      go_roundw
      case rel =>
        refine ⟨k + 1, by omega, by go_num, ?_, HB.out.2.setCell (p := ⟨w.heap.size, mn, none⟩) (Nat.le_refl _) _⟩
        have := HB.out.1.set mn (.int .i64 (k : Int))
        rw [bkU, HNS.out, List.map_set]
        exact this
      case measure => simp [intOf]; omega
    · obtain rfl : k = l.length := by omega
      clear hb hB
      go_wp2
      go_ret
      exact ⟨w.heap.size, rfl, Nat.le_refl _, HB.out.1, HB.out.2⟩
theorem MG.gat {B : Nat} {w : World} {g : GV} {A H E pb lb tb nb : Nat} (h : MG B w g A H E pb lb tb nb) (ok : OkC g) : GAt 1048576 w g := by
  refine h.at 1048576 (fun s hs => ?_) (fun s hs => ?_) ?_ ?_ ?_ ?_ (fun p hp => ?_) (fun p hp => ?_)
  · have := ok.ts s hs; unfold maxLen; omega
  · have := ok.ns s hs; unfold maxLen; omega
  · have := ok.tl; omega
  · have := ok.nl; omega
  · have := ok.pl; omega
  · have := ok.ll; omega
  · obtain ⟨i, hi, rfl⟩ := List.getElem_of_mem hp
    have := ok.right i hi
    have e : g.ps.getD i .none = g.ps[i] := by simp [List.getD, hi]
    rw [e] at this; omega
  · obtain ⟨i, hi, rfl⟩ := List.getElem_of_mem hp
    have := ok.terms i hi
    have e : g.ls.getD i .none = g.ls[i] := by simp [List.getD, hi]
    rw [e] at this; omega
/-- A grammar in a box of its own. -/
abbrev bxG (g : GV) : Obj := .cells #[.slice g.ta g.ts.length g.tc, .slice g.na g.ns.length g.nc, .int .i64 g.start, .slice g.pa g.ps.length g.pc, .slice g.la g.ls.length g.lc] 26
/-- What lasts: the box of g at b, and g in it. -/
structure BG (g : GV) (b : Nat) (w : World) : Prop where
  box : w.heap[b]? = some (bxG g)
  at_ : GAt 140737488355328 w g
  cap : g.ps.length ≤ g.pc
theorem BG.later {g : GV} {b : Nat} {w w' : World} (h : BG g b w) (hb : Below w.heap.size w w') : BG g b w' := ⟨(hb.block _ (lt_of_block h.box)).trans h.box, h.at_.later hb, h.cap⟩
theorem BG.new {g : GV} {w : World} (h : GAt 140737488355328 w g) (hc : g.ps.length ≤ g.pc) : BG g w.heap.size (w.alloc (bxG g)) := ⟨alloc_at _ _, h.later (below_alloc _ _), hc⟩
theorem BG.cells {g : GV} {b : Nat} {w : World} (h : BG g b w) : w.cell? ⟨b, 0, none⟩ = some (.slice g.ta g.ts.length g.tc) ∧ w.cell? ⟨b, 1, none⟩ = some (.slice g.na g.ns.length g.nc) ∧ w.cell? ⟨b, 2, none⟩ = some (.int .i64 g.start) ∧ w.cell? ⟨b, 3, none⟩ = some (.slice g.pa g.ps.length g.pc) ∧ w.cell? ⟨b, 4, none⟩ = some (.slice g.la g.ls.length g.lc) :=
  ⟨(cellq_any h.box).trans rfl, (cellq_any h.box).trans rfl, (cellq_any h.box).trans rfl, (cellq_any h.box).trans rfl, (cellq_any h.box).trans rfl⟩
end Go.Proofs.YtbkhhackchdbnaaGreatDoor
namespace Go.Proofs.YtbkhhackchdbnaaGreatDoor
set_option linter.unusedVariables false
open Go.RowKit

set_option maxRecDepth 100000 in
set_option maxHeartbeats 4000000 in
theorem twice_no (g : GV) (a1 a2 : Option Addr) (c1 c2 : Nat) (ts ns : List Int) (w : World) (hm : C.Magic w) (h : GAt 140737488355328 w g) (hpc : g.ps.length ≤ g.pc) (h1 : InRow w a1 ts) (h2 : InRow w a2 ns) (hl : ts.length ≤ 140737488355328 ∧ ns.length ≤ 140737488355328) (er at_ : Int) (hE : checkG g (checkF g.ts g.ns) = (er, at_)) (h0 : er ≠ 0) :
    Calls Tryz.prog 6 #[g.val, .slice a1 ts.length c1, .slice a2 ns.length c2] w fun e w' => e = .returned (.bool true) ∧ Below w.heap.size w w' := by
  have F0 : Hid (BG g w.heap.size (w.alloc (bxG g)) ∧ Below w.heap.size w (w.alloc (bxG g))) := ⟨BG.new h hpc, below_alloc _ _⟩
  have HM : Hid (C.Magic w) := hm
  have HPC : Hid (g.ps.length ≤ g.pc) := hpc
  have HI : Hid (∀ w', Below w.heap.size w w' → InRow w' a1 ts ∧ InRow w' a2 ns) := fun w' hb => ⟨h1.later hb, h2.later hb⟩
  have HLN : Hid (ts.length ≤ 140737488355328 ∧ ns.length ≤ 140737488355328) := hl
  have HE : Hid (checkG g (checkF g.ts g.ns) = (er, at_)) := hE
  clear hm h hpc h1 h2 hl hE
  have t1 : (er != 0) = true := by simpa using h0
  go_enter Tryz.func6, Tryz.ntmps6
  go_wp2_with (first
    | (go_at_call 18; refine (alive_G _ (C.Magic.later HM.out F0.out.2 HM.out.lt)).mono ?_; rintro e w1 ⟨rfl, b1⟩; have F1 : Hid (BG g w.heap.size w1 ∧ Below w.heap.size w w1) := ⟨F0.out.1.later b1, F0.out.2.trans (b1.mono F0.out.2.size)⟩; obtain ⟨x0, x1, x2, x3, x4⟩ := F1.out.1.cells; clear b1)
    | (go_at_call 10; refine (reverse_no g _ F1.out.1.at_ HPC.out er at_ HE.out h0).mono ?_; rintro e w2 ⟨rfl, b2⟩; have F2 : Hid (BG g w.heap.size (w2.alloc (.cells #[.slice none 0 0, .slice none 0 0, .int .i64 0, .slice none 0 0, .slice none 0 0] 26)) ∧ Below w.heap.size w (w2.alloc (.cells #[.slice none 0 0, .slice none 0 0, .int .i64 0, .slice none 0 0, .slice none 0 0] 26))) := ⟨(F1.out.1.later b2).later (below_alloc _ _), (F1.out.2.trans (b2.mono F1.out.2.size)).trans ((below_alloc _ _).mono (Nat.le_trans F1.out.2.size b2.size))⟩; clear x0 x1 x2 x3 x4; obtain ⟨x0, x1, x2, x3, x4⟩ := F2.out.1.cells; clear b2)
    | (go_at_call 25; refine (check_G g _ F2.out.1.at_ HPC.out er at_ HE.out).mono ?_; rintro e w3 ⟨rfl, b3⟩; have F3 : Hid (BG g w.heap.size w3 ∧ Below w.heap.size w w3) := ⟨F2.out.1.later b3, F2.out.2.trans (b3.mono F2.out.2.size)⟩; clear x0 x1 x2 x3 x4; obtain ⟨x0, x1, x2, x3, x4⟩ := F3.out.1.cells; clear b3)
    | (go_at_call 16; refine (num_g _ _).mono ?_; rintro e wN ⟨rfl, rfl⟩))
  go_ret
  exact ⟨by simp, F3.out.2⟩
set_option maxRecDepth 100000 in
set_option maxHeartbeats 8000000 in
theorem twice_err (g : GV) (a1 a2 : Option Addr) (c1 c2 : Nat) (ts ns : List Int) (w : World) (hm : C.Magic w) (h : GAt 140737488355328 w g) (hpc : g.ps.length ≤ g.pc) (h1 : InRow w a1 ts) (h2 : InRow w a2 ns) (hl : ts.length ≤ 140737488355328 ∧ ns.length ≤ 140737488355328) (at_ : Int) (hE : checkG g (checkF g.ts g.ns) = (0, at_)) (er : Int) (hu' : renU g ts ns = er) (h0 : er ≠ 0) :
    Calls Tryz.prog 6 #[g.val, .slice a1 ts.length c1, .slice a2 ns.length c2] w fun e w' => e = .returned (.bool true) ∧ Below w.heap.size w w' := by
  have F0 : Hid (BG g w.heap.size (w.alloc (bxG g)) ∧ Below w.heap.size w (w.alloc (bxG g))) := ⟨BG.new h hpc, below_alloc _ _⟩
  have HM : Hid (C.Magic w) := hm
  have HPC : Hid (g.ps.length ≤ g.pc) := hpc
  have HI : Hid (∀ w', Below w.heap.size w w' → InRow w' a1 ts ∧ InRow w' a2 ns) := fun w' hb => ⟨h1.later hb, h2.later hb⟩
  have HLN : Hid (ts.length ≤ 140737488355328 ∧ ns.length ≤ 140737488355328) := hl
  have HE : Hid (checkG g (checkF g.ts g.ns) = (0, at_)) := hE
  clear hm h hpc h1 h2 hl hE
  have OK : Hid (OkC g) := OkC.of (by rw [HE.out])
  have hu : Hid (renU g ts ns = er) := hu'
  have h346 : er = 3 ∨ er = 4 ∨ er = 6 := by
    rw [← hu']
    unfold renU
    split
    · simp
    · split
      · simp
      · split
        · simp
        · rename_i q1 q2 q3
          exfalso
          apply h0
          rw [← hu']
          unfold renU
          rw [if_neg q1, if_neg q2, if_neg q3]
  have t0 : ((0 : Int) != 0) = false := by simp
  have t1 : (er != 0) = true := by simpa using h0
  clear hu'
  rcases h346 with rfl | rfl | rfl
  · go_enter Tryz.func6, Tryz.ntmps6
    go_wp2_with (first
      | (go_at_call 18; refine (alive_G _ (C.Magic.later HM.out F0.out.2 HM.out.lt)).mono ?_; rintro e w1 ⟨rfl, b1⟩; have F1 : Hid (BG g w.heap.size w1 ∧ Below w.heap.size w w1) := ⟨F0.out.1.later b1, F0.out.2.trans (b1.mono F0.out.2.size)⟩; obtain ⟨x0, x1, x2, x3, x4⟩ := F1.out.1.cells; clear b1)
      | (go_at_call 25; refine (check_G g _ F2.out.1.1.at_ HPC.out 0 at_ HE.out).mono ?_; rintro e w3 ⟨rfl, b3⟩; have F3 : Hid ((BG g w.heap.size w3 ∧ Below w.heap.size w w3) ∧ BG ga w2.heap.size w3) := ⟨⟨F2.out.1.1.later b3, F2.out.1.2.trans (b3.mono F2.out.1.2.size)⟩, F2.out.2.later b3⟩; clear x0 x1 x2 x3 x4; obtain ⟨x0, x1, x2, x3, x4⟩ := F3.out.1.1.cells; obtain ⟨p0, p1, p2, p3, p4⟩ := F3.out.2.cells; clear b3)
      | (go_at_call 10; refine (reverse_ok ga w3 F3.out.2.at_ F3.out.2.cap at_ SA.out.2).mono ?_; rintro e w4 ⟨gb, A2, H2, E2, pb2, lb2, tb2, nb2, rfl, sb', mb', b4⟩; have SB : Hid (SameG g gb ∧ OkC gb) := (by have h1 := rev_rev SA.out.1 sb'; exact ⟨h1, OkC.of (by rw [same_check h1, HE.out])⟩); have F4 : Hid ((BG g w.heap.size (w4.alloc (bxG gb)) ∧ Below w.heap.size w (w4.alloc (bxG gb))) ∧ BG gb w4.heap.size (w4.alloc (bxG gb)) ∧ GAt 1048576 (w4.alloc (bxG gb)) gb) := ⟨⟨(F3.out.1.1.later b4).later (below_alloc _ _), (F3.out.1.2.trans (b4.mono F3.out.1.2.size)).trans ((below_alloc _ _).mono (Nat.le_trans F3.out.1.2.size b4.size))⟩, BG.new ((mb'.gat SB.out.2).mono (by omega)) mb'.pc, (mb'.gat SB.out.2).later (below_alloc _ _)⟩; clear x0 x1 x2 x3 x4 p0 p1 p2 p3 p4; obtain ⟨x0, x1, x2, x3, x4⟩ := F4.out.1.1.cells; obtain ⟨q0, q1, q2, q3, q4⟩ := F4.out.2.1.cells; clear b4 sb' mb')
      | (go_at_call 10; refine (reverse_ok g _ F1.out.1.at_ HPC.out at_ HE.out).mono ?_; rintro e w2 ⟨ga, A, H, E, pb, lb, tb, nb, rfl, sa', ma', b2⟩; have SA : Hid (SameG g.rev ga ∧ checkG ga (checkF ga.ts ga.ns) = (0, at_)) := ⟨sa', by rw [same_check sa', check_rev]; exact HE.out⟩; have OA : Hid (OkC ga) := OkC.of (by rw [SA.out.2]); have F2 : Hid ((BG g w.heap.size (w2.alloc (bxG ga)) ∧ Below w.heap.size w (w2.alloc (bxG ga))) ∧ BG ga w2.heap.size (w2.alloc (bxG ga))) := ⟨⟨(F1.out.1.later b2).later (below_alloc _ _), (F1.out.2.trans (b2.mono F1.out.2.size)).trans ((below_alloc _ _).mono (Nat.le_trans F1.out.2.size b2.size))⟩, BG.new ((ma'.gat OA.out).mono (by omega)) ma'.pc⟩; clear x0 x1 x2 x3 x4; obtain ⟨x0, x1, x2, x3, x4⟩ := F2.out.1.1.cells; clear b2 sa' ma')
      | (go_at_call 15; refine (samegram_g _ g gb 1048576 (by omega) (F4.out.1.1.at_.ok OK.out) F4.out.2.2 SB.out.1).mono ?_; rintro e w5 ⟨rfl, b5⟩; have F5 : Hid (BG g w.heap.size w5 ∧ Below w.heap.size w w5) := ⟨F4.out.1.1.later b5, F4.out.1.2.trans (b5.mono F4.out.1.2.size)⟩; clear x0 x1 x2 x3 x4 q0 q1 q2 q3 q4; obtain ⟨x0, x1, x2, x3, x4⟩ := F5.out.1.cells; clear b5)
      | (go_at_call 12; refine (renumber_err g a1 a2 c1 c2 ts ns _ F5.out.1.at_ HPC.out at_ HE.out (HI.out _ F5.out.2).1 (HI.out _ F5.out.2).2 HLN.out _ hu.out h0).mono ?_; rintro e w6 ⟨rfl, b6⟩; have F6 : Hid (Below w.heap.size w (w6.alloc (.cells #[.slice none 0 0, .slice none 0 0, .int .i64 0, .slice none 0 0, .slice none 0 0] 26))) := (F5.out.2.trans (b6.mono F5.out.2.size)).trans ((below_alloc _ _).mono (Nat.le_trans F5.out.2.size b6.size)); clear b6)
      | (go_at_call 16; refine (num_g _ _).mono ?_; rintro e wN ⟨rfl, rfl⟩))
    go_ret
    exact ⟨by simp, F6.out⟩
  · go_enter Tryz.func6, Tryz.ntmps6
    go_wp2_with (first
      | (go_at_call 18; refine (alive_G _ (C.Magic.later HM.out F0.out.2 HM.out.lt)).mono ?_; rintro e w1 ⟨rfl, b1⟩; have F1 : Hid (BG g w.heap.size w1 ∧ Below w.heap.size w w1) := ⟨F0.out.1.later b1, F0.out.2.trans (b1.mono F0.out.2.size)⟩; obtain ⟨x0, x1, x2, x3, x4⟩ := F1.out.1.cells; clear b1)
      | (go_at_call 25; refine (check_G g _ F2.out.1.1.at_ HPC.out 0 at_ HE.out).mono ?_; rintro e w3 ⟨rfl, b3⟩; have F3 : Hid ((BG g w.heap.size w3 ∧ Below w.heap.size w w3) ∧ BG ga w2.heap.size w3) := ⟨⟨F2.out.1.1.later b3, F2.out.1.2.trans (b3.mono F2.out.1.2.size)⟩, F2.out.2.later b3⟩; clear x0 x1 x2 x3 x4; obtain ⟨x0, x1, x2, x3, x4⟩ := F3.out.1.1.cells; obtain ⟨p0, p1, p2, p3, p4⟩ := F3.out.2.cells; clear b3)
      | (go_at_call 10; refine (reverse_ok ga w3 F3.out.2.at_ F3.out.2.cap at_ SA.out.2).mono ?_; rintro e w4 ⟨gb, A2, H2, E2, pb2, lb2, tb2, nb2, rfl, sb', mb', b4⟩; have SB : Hid (SameG g gb ∧ OkC gb) := (by have h1 := rev_rev SA.out.1 sb'; exact ⟨h1, OkC.of (by rw [same_check h1, HE.out])⟩); have F4 : Hid ((BG g w.heap.size (w4.alloc (bxG gb)) ∧ Below w.heap.size w (w4.alloc (bxG gb))) ∧ BG gb w4.heap.size (w4.alloc (bxG gb)) ∧ GAt 1048576 (w4.alloc (bxG gb)) gb) := ⟨⟨(F3.out.1.1.later b4).later (below_alloc _ _), (F3.out.1.2.trans (b4.mono F3.out.1.2.size)).trans ((below_alloc _ _).mono (Nat.le_trans F3.out.1.2.size b4.size))⟩, BG.new ((mb'.gat SB.out.2).mono (by omega)) mb'.pc, (mb'.gat SB.out.2).later (below_alloc _ _)⟩; clear x0 x1 x2 x3 x4 p0 p1 p2 p3 p4; obtain ⟨x0, x1, x2, x3, x4⟩ := F4.out.1.1.cells; obtain ⟨q0, q1, q2, q3, q4⟩ := F4.out.2.1.cells; clear b4 sb' mb')
      | (go_at_call 10; refine (reverse_ok g _ F1.out.1.at_ HPC.out at_ HE.out).mono ?_; rintro e w2 ⟨ga, A, H, E, pb, lb, tb, nb, rfl, sa', ma', b2⟩; have SA : Hid (SameG g.rev ga ∧ checkG ga (checkF ga.ts ga.ns) = (0, at_)) := ⟨sa', by rw [same_check sa', check_rev]; exact HE.out⟩; have OA : Hid (OkC ga) := OkC.of (by rw [SA.out.2]); have F2 : Hid ((BG g w.heap.size (w2.alloc (bxG ga)) ∧ Below w.heap.size w (w2.alloc (bxG ga))) ∧ BG ga w2.heap.size (w2.alloc (bxG ga))) := ⟨⟨(F1.out.1.later b2).later (below_alloc _ _), (F1.out.2.trans (b2.mono F1.out.2.size)).trans ((below_alloc _ _).mono (Nat.le_trans F1.out.2.size b2.size))⟩, BG.new ((ma'.gat OA.out).mono (by omega)) ma'.pc⟩; clear x0 x1 x2 x3 x4; obtain ⟨x0, x1, x2, x3, x4⟩ := F2.out.1.1.cells; clear b2 sa' ma')
      | (go_at_call 15; refine (samegram_g _ g gb 1048576 (by omega) (F4.out.1.1.at_.ok OK.out) F4.out.2.2 SB.out.1).mono ?_; rintro e w5 ⟨rfl, b5⟩; have F5 : Hid (BG g w.heap.size w5 ∧ Below w.heap.size w w5) := ⟨F4.out.1.1.later b5, F4.out.1.2.trans (b5.mono F4.out.1.2.size)⟩; clear x0 x1 x2 x3 x4 q0 q1 q2 q3 q4; obtain ⟨x0, x1, x2, x3, x4⟩ := F5.out.1.cells; clear b5)
      | (go_at_call 12; refine (renumber_err g a1 a2 c1 c2 ts ns _ F5.out.1.at_ HPC.out at_ HE.out (HI.out _ F5.out.2).1 (HI.out _ F5.out.2).2 HLN.out _ hu.out h0).mono ?_; rintro e w6 ⟨rfl, b6⟩; have F6 : Hid (Below w.heap.size w (w6.alloc (.cells #[.slice none 0 0, .slice none 0 0, .int .i64 0, .slice none 0 0, .slice none 0 0] 26))) := (F5.out.2.trans (b6.mono F5.out.2.size)).trans ((below_alloc _ _).mono (Nat.le_trans F5.out.2.size b6.size)); clear b6)
      | (go_at_call 16; refine (num_g _ _).mono ?_; rintro e wN ⟨rfl, rfl⟩))
    go_ret
    exact ⟨by simp, F6.out⟩
  · go_enter Tryz.func6, Tryz.ntmps6
    go_wp2_with (first
      | (go_at_call 18; refine (alive_G _ (C.Magic.later HM.out F0.out.2 HM.out.lt)).mono ?_; rintro e w1 ⟨rfl, b1⟩; have F1 : Hid (BG g w.heap.size w1 ∧ Below w.heap.size w w1) := ⟨F0.out.1.later b1, F0.out.2.trans (b1.mono F0.out.2.size)⟩; obtain ⟨x0, x1, x2, x3, x4⟩ := F1.out.1.cells; clear b1)
      | (go_at_call 25; refine (check_G g _ F2.out.1.1.at_ HPC.out 0 at_ HE.out).mono ?_; rintro e w3 ⟨rfl, b3⟩; have F3 : Hid ((BG g w.heap.size w3 ∧ Below w.heap.size w w3) ∧ BG ga w2.heap.size w3) := ⟨⟨F2.out.1.1.later b3, F2.out.1.2.trans (b3.mono F2.out.1.2.size)⟩, F2.out.2.later b3⟩; clear x0 x1 x2 x3 x4; obtain ⟨x0, x1, x2, x3, x4⟩ := F3.out.1.1.cells; obtain ⟨p0, p1, p2, p3, p4⟩ := F3.out.2.cells; clear b3)
      | (go_at_call 10; refine (reverse_ok ga w3 F3.out.2.at_ F3.out.2.cap at_ SA.out.2).mono ?_; rintro e w4 ⟨gb, A2, H2, E2, pb2, lb2, tb2, nb2, rfl, sb', mb', b4⟩; have SB : Hid (SameG g gb ∧ OkC gb) := (by have h1 := rev_rev SA.out.1 sb'; exact ⟨h1, OkC.of (by rw [same_check h1, HE.out])⟩); have F4 : Hid ((BG g w.heap.size (w4.alloc (bxG gb)) ∧ Below w.heap.size w (w4.alloc (bxG gb))) ∧ BG gb w4.heap.size (w4.alloc (bxG gb)) ∧ GAt 1048576 (w4.alloc (bxG gb)) gb) := ⟨⟨(F3.out.1.1.later b4).later (below_alloc _ _), (F3.out.1.2.trans (b4.mono F3.out.1.2.size)).trans ((below_alloc _ _).mono (Nat.le_trans F3.out.1.2.size b4.size))⟩, BG.new ((mb'.gat SB.out.2).mono (by omega)) mb'.pc, (mb'.gat SB.out.2).later (below_alloc _ _)⟩; clear x0 x1 x2 x3 x4 p0 p1 p2 p3 p4; obtain ⟨x0, x1, x2, x3, x4⟩ := F4.out.1.1.cells; obtain ⟨q0, q1, q2, q3, q4⟩ := F4.out.2.1.cells; clear b4 sb' mb')
      | (go_at_call 10; refine (reverse_ok g _ F1.out.1.at_ HPC.out at_ HE.out).mono ?_; rintro e w2 ⟨ga, A, H, E, pb, lb, tb, nb, rfl, sa', ma', b2⟩; have SA : Hid (SameG g.rev ga ∧ checkG ga (checkF ga.ts ga.ns) = (0, at_)) := ⟨sa', by rw [same_check sa', check_rev]; exact HE.out⟩; have OA : Hid (OkC ga) := OkC.of (by rw [SA.out.2]); have F2 : Hid ((BG g w.heap.size (w2.alloc (bxG ga)) ∧ Below w.heap.size w (w2.alloc (bxG ga))) ∧ BG ga w2.heap.size (w2.alloc (bxG ga))) := ⟨⟨(F1.out.1.later b2).later (below_alloc _ _), (F1.out.2.trans (b2.mono F1.out.2.size)).trans ((below_alloc _ _).mono (Nat.le_trans F1.out.2.size b2.size))⟩, BG.new ((ma'.gat OA.out).mono (by omega)) ma'.pc⟩; clear x0 x1 x2 x3 x4; obtain ⟨x0, x1, x2, x3, x4⟩ := F2.out.1.1.cells; clear b2 sa' ma')
      | (go_at_call 15; refine (samegram_g _ g gb 1048576 (by omega) (F4.out.1.1.at_.ok OK.out) F4.out.2.2 SB.out.1).mono ?_; rintro e w5 ⟨rfl, b5⟩; have F5 : Hid (BG g w.heap.size w5 ∧ Below w.heap.size w w5) := ⟨F4.out.1.1.later b5, F4.out.1.2.trans (b5.mono F4.out.1.2.size)⟩; clear x0 x1 x2 x3 x4 q0 q1 q2 q3 q4; obtain ⟨x0, x1, x2, x3, x4⟩ := F5.out.1.cells; clear b5)
      | (go_at_call 12; refine (renumber_err g a1 a2 c1 c2 ts ns _ F5.out.1.at_ HPC.out at_ HE.out (HI.out _ F5.out.2).1 (HI.out _ F5.out.2).2 HLN.out _ hu.out h0).mono ?_; rintro e w6 ⟨rfl, b6⟩; have F6 : Hid (Below w.heap.size w (w6.alloc (.cells #[.slice none 0 0, .slice none 0 0, .int .i64 0, .slice none 0 0, .slice none 0 0] 26))) := (F5.out.2.trans (b6.mono F5.out.2.size)).trans ((below_alloc _ _).mono (Nat.le_trans F5.out.2.size b6.size)); clear b6)
      | (go_at_call 16; refine (num_g _ _).mono ?_; rintro e wN ⟨rfl, rfl⟩))
    go_ret
    exact ⟨by simp, F6.out⟩
end Go.Proofs.YtbkhhackchdbnaaGreatDoor
namespace Go.Proofs.YtbkhhackchdbnaaGreatDoor
set_option linter.unusedVariables false
open Go.RowKit

theorem checkF_ok {g : GV} {at_ : Int} (h : checkG g (checkF g.ts g.ns) = (0, at_)) : (checkF g.ts g.ns).1 = 0 := by
  unfold checkG at h
  by_cases h1 : g.ts.length = 0 ∨ 64 < g.ts.length
  · rw [if_pos h1] at h; exact absurd (congrArg (·.1) h) (by simp)
  rw [if_neg h1] at h
  by_cases h2 : g.ns.length = 0 ∨ 64 < g.ns.length
  · rw [if_pos h2] at h; exact absurd (congrArg (·.1) h) (by simp)
  rw [if_neg h2] at h
  by_cases h3 : (checkF g.ts g.ns).1 = 0
  · exact h3
  · rw [if_pos h3] at h; exact congrArg (·.1) h
theorem keepB {X w : World} (hb : Below X.heap.size X w) : ∀ (b : Nat) (o : Obj), X.heap[b]? = some o → w.heap[b]? = some o := fun b _ h => (hb.block b (lt_of_block h)).trans h
theorem mgK {X w9 : World} {gd : GV} {A H E pb lb tb nb : Nat} (h : MG X.heap.size w9 gd A H E pb lb tb nb) (ok : OkC gd) : ∀ (b : Nat) (o : Obj), X.heap[b]? = some o → ∀ W : World, w9.heap.size ≤ W.heap.size → (∀ j, j ≠ b → W.heap[j]? = w9.heap[j]?) → GAt 1048576 W gd := fun b _ hb _ hs hk =>
  (h.kept hs fun j hj _ => hk j (by have := lt_of_block hb; omega)).gat ok
theorem five_at {w : World} {b : Nat} {C : Array Value} {t : TypeId} (h : w.heap[b]? = some (.cells C t (0, 0))) (v0 v1 v2 v3 v4 : Value) : (((((w.setCell ⟨b, 0, none⟩ v0).setCell ⟨b, 1, none⟩ v1).setCell ⟨b, 2, none⟩ v2).setCell ⟨b, 3, none⟩ v3).setCell ⟨b, 4, none⟩ v4).heap[b]? = some (.cells (((((C.setIfInBounds 0 v0).setIfInBounds 1 v1).setIfInBounds 2 v2).setIfInBounds 3 v3).setIfInBounds 4 v4) t (0, 0)) := heap_set (heap_set (heap_set (heap_set (heap_set h 0 v0) 1 v1) 2 v2) 3 v3) 4 v4
theorem five_bel {n b : Nat} {w0 w : World} (h : Below n w0 w) (hb : n ≤ b) (v0 v1 v2 v3 v4 : Value) : Below n w0 (((((w.setCell ⟨b, 0, none⟩ v0).setCell ⟨b, 1, none⟩ v1).setCell ⟨b, 2, none⟩ v2).setCell ⟨b, 3, none⟩ v3).setCell ⟨b, 4, none⟩ v4) :=
  ((((h.setCell (p := ⟨b, 0, none⟩) hb _).setCell (p := ⟨b, 1, none⟩) hb _).setCell (p := ⟨b, 2, none⟩) hb _).setCell (p := ⟨b, 3, none⟩) hb _).setCell (p := ⟨b, 4, none⟩) hb _
theorem five_ne {w : World} {b : Nat} (v0 v1 v2 v3 v4 : Value) (j : Nat) (hj : j ≠ b) : (((((w.setCell ⟨b, 0, none⟩ v0).setCell ⟨b, 1, none⟩ v1).setCell ⟨b, 2, none⟩ v2).setCell ⟨b, 3, none⟩ v3).setCell ⟨b, 4, none⟩ v4).heap[j]? = w.heap[j]? := by
  rw [Below.heap_setCell _ _ _ _ hj, Below.heap_setCell _ _ _ _ hj, Below.heap_setCell _ _ _ _ hj, Below.heap_setCell _ _ _ _ hj, Below.heap_setCell _ _ _ _ hj]
theorem atX {X w' : World} (_ : Below X.heap.size X w') {Φ : World → Prop} {W : World} (h : ∀ wr, Below W.heap.size W wr → Φ wr) (hb : Below W.heap.size W X) : Φ X := h X hb
theorem kS {g : GV} {b : Nat} {w' : World} (h : w'.heap[b]? = some (bxG g)) : w'.cell? ⟨b, 0, none⟩ = some (.slice g.ta g.ts.length g.tc) ∧ w'.cell? ⟨b, 1, none⟩ = some (.slice g.na g.ns.length g.nc) ∧ w'.cell? ⟨b, 2, none⟩ = some (.int .i64 g.start) ∧ w'.cell? ⟨b, 3, none⟩ = some (.slice g.pa g.ps.length g.pc) ∧ w'.cell? ⟨b, 4, none⟩ = some (.slice g.la g.ls.length g.lc) :=
  ⟨(cellq_any h).trans rfl, (cellq_any h).trans rfl, (cellq_any h).trans rfl, (cellq_any h).trans rfl, (cellq_any h).trans rfl⟩
theorem setX {w : World} {b p : Nat} {o : Obj} (hn : b ≠ p) (h : w.heap[b]? = some o) (i0 i1 i2 i3 i4 : Nat) (v0 v1 v2 v3 v4 : Value) : (((((w.setCell ⟨p, i0, none⟩ v0).setCell ⟨p, i1, none⟩ v1).setCell ⟨p, i2, none⟩ v2).setCell ⟨p, i3, none⟩ v3).setCell ⟨p, i4, none⟩ v4).heap[b]? = some o := by
  rw [Below.heap_setCell _ _ _ _ hn, Below.heap_setCell _ _ _ _ hn, Below.heap_setCell _ _ _ _ hn, Below.heap_setCell _ _ _ _ hn, Below.heap_setCell _ _ _ _ hn]
  exact h
set_option maxRecDepth 100000 in
set_option maxHeartbeats 16000000 in
theorem twice_ok (g : GV) (a1 a2 : Option Addr) (c1 c2 : Nat) (ts ns : List Int) (w : World) (hm : C.Magic w) (h : GAt 140737488355328 w g) (hpc : g.ps.length ≤ g.pc) (h1 : InRow w a1 ts) (h2 : InRow w a2 ns) (hl : ts.length ≤ 140737488355328 ∧ ns.length ≤ 140737488355328) (at_ : Int) (hE : checkG g (checkF g.ts g.ns) = (0, at_)) (hu' : renU g ts ns = 0) :
    Calls Tryz.prog 6 #[g.val, .slice a1 ts.length c1, .slice a2 ns.length c2] w fun e w' => e = .returned (.bool true) ∧ Below w.heap.size w w' := by
  have F0 : Hid (BG g w.heap.size (w.alloc (bxG g)) ∧ Below w.heap.size w (w.alloc (bxG g))) := ⟨BG.new h hpc, below_alloc _ _⟩
  have HM : Hid (C.Magic w) := hm
  have HPC : Hid (g.ps.length ≤ g.pc) := hpc
  have HI : Hid (∀ w', Below w.heap.size w w' → InRow w' a1 ts ∧ InRow w' a2 ns) := fun w' hb => ⟨h1.later hb, h2.later hb⟩
  have HLN : Hid (ts.length ≤ 140737488355328 ∧ ns.length ≤ 140737488355328) := hl
  have HE : Hid (checkG g (checkF g.ts g.ns) = (0, at_)) := hE
  have HG0 : Hid (∀ w0, Below w.heap.size w w0 → GAt 140737488355328 w0 g) := fun w0 hb => h.later hb
  clear hm h hpc h1 h2 hl hE
  have OK : Hid (OkC g) := OkC.of (by rw [HE.out])
  have hu : Hid (renU g ts ns = 0) := hu'
  have NO : Hid (NumOk g ts ns) := renU_ok hu'
  have HCF : Hid ((checkF g.ts g.ns).1 = 0) := checkF_ok HE.out
  have NL : Hid (ts.length ≤ 1048576 ∧ ns.length ≤ 1048576) := ⟨by have h1 := NO.out.tl; have h2 := OK.out.tl; omega, by have h1 := NO.out.nl; have h2 := OK.out.nl; omega⟩
  have t0 : ((0 : Int) != 0) = false := by simp
  have t1 : ((0 : Int) == 0) = true := by simp
  clear hu'
  go_enter Tryz.func6, Tryz.ntmps6
  go_wp2_with (first
    | (go_at_call 18; refine (alive_G _ (C.Magic.later HM.out F0.out.2 HM.out.lt)).mono ?_; rintro e w1 ⟨rfl, b1⟩; have F1 : Hid (BG g w.heap.size w1 ∧ Below w.heap.size w w1) := ⟨F0.out.1.later b1, F0.out.2.trans (b1.mono F0.out.2.size)⟩; obtain ⟨x0, x1, x2, x3, x4⟩ := F1.out.1.cells; clear b1)
    | (go_at_call 25; refine (check_G g _ F2.out.1.1.at_ HPC.out 0 at_ HE.out).mono ?_; rintro e w3 ⟨rfl, b3⟩; have F3 : Hid ((BG g w.heap.size w3 ∧ Below w.heap.size w w3) ∧ BG ga w2.heap.size w3) := ⟨⟨F2.out.1.1.later b3, F2.out.1.2.trans (b3.mono F2.out.1.2.size)⟩, F2.out.2.later b3⟩; clear x0 x1 x2 x3 x4; obtain ⟨x0, x1, x2, x3, x4⟩ := F3.out.1.1.cells; obtain ⟨p0, p1, p2, p3, p4⟩ := F3.out.2.cells; clear b3)
    | (go_at_call 10; refine (reverse_ok ga w3 F3.out.2.at_ F3.out.2.cap at_ SA.out.2).mono ?_; rintro e w4 ⟨gb, A2, H2, E2, pb2, lb2, tb2, nb2, rfl, sb', mb', b4⟩; have SB : Hid (SameG g gb ∧ OkC gb) := (by have h1 := rev_rev SA.out.1 sb'; exact ⟨h1, OkC.of (by rw [same_check h1, HE.out])⟩); have F4 : Hid ((BG g w.heap.size (w4.alloc (bxG gb)) ∧ Below w.heap.size w (w4.alloc (bxG gb))) ∧ BG gb w4.heap.size (w4.alloc (bxG gb)) ∧ GAt 1048576 (w4.alloc (bxG gb)) gb) := ⟨⟨(F3.out.1.1.later b4).later (below_alloc _ _), (F3.out.1.2.trans (b4.mono F3.out.1.2.size)).trans ((below_alloc _ _).mono (Nat.le_trans F3.out.1.2.size b4.size))⟩, BG.new ((mb'.gat SB.out.2).mono (by omega)) mb'.pc, (mb'.gat SB.out.2).later (below_alloc _ _)⟩; clear x0 x1 x2 x3 x4 p0 p1 p2 p3 p4; obtain ⟨x0, x1, x2, x3, x4⟩ := F4.out.1.1.cells; obtain ⟨q0, q1, q2, q3, q4⟩ := F4.out.2.1.cells; clear b4 sb' mb')
    | (go_at_call 10; refine (reverse_ok g _ F1.out.1.at_ HPC.out at_ HE.out).mono ?_; rintro e w2 ⟨ga, A, H, E, pb, lb, tb, nb, rfl, sa', ma', b2⟩; have SA : Hid (SameG g.rev ga ∧ checkG ga (checkF ga.ts ga.ns) = (0, at_)) := ⟨sa', by rw [same_check sa', check_rev]; exact HE.out⟩; have OA : Hid (OkC ga) := OkC.of (by rw [SA.out.2]); have F2 : Hid ((BG g w.heap.size (w2.alloc (bxG ga)) ∧ Below w.heap.size w (w2.alloc (bxG ga))) ∧ BG ga w2.heap.size (w2.alloc (bxG ga))) := ⟨⟨(F1.out.1.later b2).later (below_alloc _ _), (F1.out.2.trans (b2.mono F1.out.2.size)).trans ((below_alloc _ _).mono (Nat.le_trans F1.out.2.size b2.size))⟩, BG.new ((ma'.gat OA.out).mono (by omega)) ma'.pc⟩; clear x0 x1 x2 x3 x4; obtain ⟨x0, x1, x2, x3, x4⟩ := F2.out.1.1.cells; clear b2 sa' ma')
    | (go_at_call 15; refine (samegram_g _ g gb 1048576 (by omega) (F4.out.1.1.at_.ok OK.out) F4.out.2.2 SB.out.1).mono ?_; rintro e w5 ⟨rfl, b5⟩; have F5 : Hid (BG g w.heap.size w5 ∧ Below w.heap.size w w5) := ⟨F4.out.1.1.later b5, F4.out.1.2.trans (b5.mono F4.out.1.2.size)⟩; clear x0 x1 x2 x3 x4 q0 q1 q2 q3 q4; obtain ⟨x0, x1, x2, x3, x4⟩ := F5.out.1.cells; clear b5)
    | (go_at_call 12; refine (renumber_ok g a1 a2 c1 c2 ts ns _ F5.out.1.at_ HPC.out at_ HE.out (HI.out _ F5.out.2).1 (HI.out _ F5.out.2).2 HLN.out hu.out).mono ?_; rintro e w6 ⟨gc, A3, H3, E3, pb3, lb3, tb3, nb3, rfl, sc', mc', b6⟩; have SC : Hid (SameG (g.ren ts ns) gc ∧ checkG gc (checkF gc.ts gc.ns) = (0, 0)) := ⟨sc', by rw [same_check sc']; exact check_ren OK.out HCF.out NO.out⟩; have OC : Hid (OkC gc) := OkC.of (by rw [SC.out.2]); have F6 : Hid ((BG g w.heap.size (w6.alloc (bxG gc)) ∧ Below w.heap.size w (w6.alloc (bxG gc))) ∧ BG gc w6.heap.size (w6.alloc (bxG gc))) := ⟨⟨(F5.out.1.later b6).later (below_alloc _ _), (F5.out.2.trans (b6.mono F5.out.2.size)).trans ((below_alloc _ _).mono (Nat.le_trans F5.out.2.size b6.size))⟩, BG.new ((mc'.gat OC.out).mono (by omega)) mc'.pc⟩; have N6' : w.heap.size < w6.heap.size := Nat.lt_of_lt_of_le (lt_of_block F5.out.1.box) b6.size; clear x0 x1 x2 x3 x4; obtain ⟨x0, x1, x2, x3, x4⟩ := F6.out.1.1.cells; obtain ⟨r0, r1, r2, r3, r4⟩ := F6.out.2.cells; clear b6 sc' mc')
    | (go_at_call 16; refine (num_g _ _).mono ?_; rintro e wN ⟨rfl, rfl⟩))
  have FA : Hid (∀ wr, Below (w6.alloc (bxG gc)).heap.size (w6.alloc (bxG gc)) wr → BG gc w6.heap.size wr ∧ (BG g w.heap.size wr ∧ Below w.heap.size w wr) ∧ True) := fun wr hb => ⟨F6.out.2.later hb, ⟨F6.out.1.1.later hb, F6.out.1.2.trans (hb.mono F6.out.1.2.size)⟩, trivial⟩
  have ZC : Hid (((w6.alloc (bxG gc)).drew.alloc (.cells #[.slice none 0 0, .slice none 0 0, .int .i64 0, .slice none 0 0, .slice none 0 0] 26)).heap[w6.heap.size + 1]? = some (.cells #[.slice none 0 0, .slice none 0 0, .int .i64 0, .slice none 0 0, .slice none 0 0] 26)) := by
    have := alloc_at (w6.alloc (bxG gc)).drew (.cells #[.slice none 0 0, .slice none 0 0, .int .i64 0, .slice none 0 0, .slice none 0 0] 26)
    have e : (w6.alloc (bxG gc)).drew.heap.size = w6.heap.size + 1 := by show (w6.alloc (bxG gc)).heap.size = _; simp
    rw [e] at this
    exact this
  have RENC : ∀ (bb1 bb2 : Nat) (X : World), (BG gc w6.heap.size X ∧ (BG g w.heap.size X ∧ Below w.heap.size w X) ∧ InRow X (some ⟨bb1, 0, none⟩) (backU ts) ∧ InRow X (some ⟨bb2, 0, none⟩) (backU ns)) → Calls Tryz.prog 12 #[gc.val, .slice (some ⟨bb1, 0, none⟩) ts.length ts.length, .slice (some ⟨bb2, 0, none⟩) ns.length ns.length] X fun e w' => ∃ g' A H E pb lb tb nb, e = .returned (.tuple #[g'.val, .int .i64 0]) ∧ SameG (gc.ren (backU ts) (backU ns)) g' ∧ MG X.heap.size w' g' A H E pb lb tb nb ∧ Below X.heap.size X w' := fun bb1 bb2 X hX => by
    have hNB := num_back NO.out SC.out.1
    have := renumber_ok gc (some ⟨bb1, 0, none⟩) (some ⟨bb2, 0, none⟩) ts.length ns.length (backU ts) (backU ns) X hX.1.at_ hX.1.cap 0 SC.out.2 hX.2.2.1 hX.2.2.2 ⟨by rw [backU_len]; have := NL.out; omega, by rw [backU_len]; have := NL.out; omega⟩ (renU_of hNB)
    rw [backU_len, backU_len] at this
    exact this
  have RC : Hid (∀ (bb1 bb2 : Nat) (X : World), (BG gc w6.heap.size X ∧ (BG g w.heap.size X ∧ Below w.heap.size w X) ∧ InRow X (some ⟨bb1, 0, none⟩) (backU ts) ∧ InRow X (some ⟨bb2, 0, none⟩) (backU ns)) → Calls Tryz.prog 12 #[gc.val, .slice (some ⟨bb1, 0, none⟩) ts.length ts.length, .slice (some ⟨bb2, 0, none⟩) ns.length ns.length] X fun e w' => ∃ g' A H E pb lb tb nb, e = .returned (.tuple #[g'.val, .int .i64 0]) ∧ SameG (gc.ren (backU ts) (backU ns)) g' ∧ MG X.heap.size w' g' A H E pb lb tb nb ∧ Below X.heap.size X w') := RENC
  clear RENC
  have GD1 : Hid True := trivial
  have N6 : Hid (w.heap.size < w6.heap.size) := N6'
  have hs6 : w6.heap.size < (w6.alloc (bxG gc)).heap.size := by simp
  clear x0 x1 x2 x3 x4 F0 F1 F2 F3 F4 F5 SA SB OA hu
  go_region_held3 (fun w' => w'.cell? ⟨w6.heap.size, 0, none⟩ = some (.slice gc.ta gc.ts.length gc.tc) ∧ w'.cell? ⟨w6.heap.size, 1, none⟩ = some (.slice gc.na gc.ns.length gc.nc) ∧ w'.cell? ⟨w6.heap.size, 2, none⟩ = some (.int .i64 gc.start) ∧ w'.cell? ⟨w6.heap.size, 3, none⟩ = some (.slice gc.pa gc.ps.length gc.pc) ∧ w'.cell? ⟨w6.heap.size, 4, none⟩ = some (.slice gc.la gc.ls.length gc.lc)) (first | (with_reducible exact kS (setX hnn (F9.out _ (Below.refl _ _)).1.box _ _ _ _ _ _ _ _ _ _)) | (with_reducible exact kS (F9.out _ (Below.refl _ _)).1.box) | (with_reducible exact kS (F8.out _ (Below.refl _ _)).1.box) | (with_reducible exact kS (F7.out _ (Below.refl _ _)).1.box) | (with_reducible exact kS (F9.out _ (by go_grown)).1.box) | (with_reducible exact kS (F8.out _ (by go_grown)).1.box) | (with_reducible exact kS (F7.out _ (by go_grown)).1.box) | exact kS (FA.out _ (by go_grown)).1.box) (first
    | (go_at_call 26; guard_hyp GD1 : Hid True; refine (back_law a1 c1 ts _ NL.out.1 (HI.out _ (FA.out _ (by go_grown)).2.1.2).1 NO.out.tp.lo).mono ?_; rintro e w7 ⟨bb1, rfl, l7, r7, b7⟩; have Z7 : Hid _ := keepB b7; have F7 : Hid (∀ wr, Below w7.heap.size w7 wr → BG gc w6.heap.size wr ∧ (BG g w.heap.size wr ∧ Below w.heap.size w wr) ∧ InRow wr (some ⟨bb1, 0, none⟩) (backU ts)) := (fun wr hb => by have hx := atX b7 FA.out (by go_grown); have h1 := b7.size; have hBL := hx.2.1.2.trans (b7.mono hx.2.1.2.size); exact ⟨(hx.1.later b7).later hb, ⟨(hx.2.1.1.later b7).later hb, hBL.trans (hb.mono hBL.size)⟩, (inRow_of r7).later hb⟩); clear GD1 l7 r7 b7)
    | (go_at_call 26; refine (back_law a2 c2 ns _ NL.out.2 (HI.out _ (F7.out _ (by go_grown)).2.1.2).2 NO.out.np.lo).mono ?_; rintro e w8 ⟨bb2, rfl, l8, r8, b8⟩; have Z8 : Hid _ := keepB b8; have F8 : Hid (∀ wr, Below w8.heap.size w8 wr → BG gc w6.heap.size wr ∧ (BG g w.heap.size wr ∧ Below w.heap.size w wr) ∧ InRow wr (some ⟨bb1, 0, none⟩) (backU ts) ∧ InRow wr (some ⟨bb2, 0, none⟩) (backU ns)) := (fun wr hb => by have hx := atX b8 F7.out (by go_grown); have h1 := b8.size; have hBL := hx.2.1.2.trans (b8.mono hx.2.1.2.size); exact ⟨(hx.1.later b8).later hb, ⟨(hx.2.1.1.later b8).later hb, hBL.trans (hb.mono hBL.size)⟩, (hx.2.2.later b8).later hb, (inRow_of r8).later hb⟩); clear l8 r8 b8)
    | (go_at_call 12; refine (RC.out bb1 bb2 _ (F8.out _ (by go_grown))).mono ?_; rintro e w9 ⟨gd, A4, H4, E4, pb4, lb4, tb4, nb4, rfl, sd', md', b9⟩; have Z9 : Hid _ := keepB b9; have SD : Hid (SameG g gd ∧ OkC gd) := (by have h1 := back_ren OK.out NO.out SC.out.1 sd'; exact ⟨h1, OkC.of (by rw [same_check h1, HE.out])⟩); have D9 : Hid (GAt 1048576 w9 gd ∧ gd.ps.length ≤ gd.pc) := ⟨md'.gat SD.out.2, md'.pc⟩; have MK : Hid _ := mgK md' SD.out.2; have F9 : Hid (∀ wr, Below w9.heap.size w9 wr → BG gc w6.heap.size wr ∧ (BG g w.heap.size wr ∧ Below w.heap.size w wr) ∧ True) := (fun wr hb => by have hx := atX b9 F8.out (by go_grown); have h1 := b9.size; have hBL := hx.2.1.2.trans (b9.mono hx.2.1.2.size); exact ⟨(hx.1.later b9).later hb, ⟨(hx.2.1.1.later b9).later hb, hBL.trans (hb.mono hBL.size)⟩, trivial⟩); have hs8 : w6.heap.size < w8.heap.size := lt_of_block (F8.out _ (Below.refl _ _)).1.box; have hs7 : w6.heap.size < w7.heap.size := lt_of_block (F7.out _ (Below.refl _ _)).1.box; clear sd' md' b9; (first | (have px : w9.heap[w8.heap.size]? = some (.cells #[.slice none 0 0, .slice none 0 0, .int .i64 0, .slice none 0 0, .slice none 0 0] 26) := (by with_reducible exact Z9.out _ _ (alloc_at w8 (.cells #[.slice none 0 0, .slice none 0 0, .int .i64 0, .slice none 0 0, .slice none 0 0] 26))); have z0 : w9.cell? ⟨w8.heap.size, 0, none⟩ = some (.slice none 0 0) := (cellq_any px).trans rfl; have y0 : w9.frozen? ⟨w8.heap.size, 0, none⟩ = false := (by unfold World.frozen?; rw [px]; rfl); have z1 : w9.cell? ⟨w8.heap.size, 1, none⟩ = some (.slice none 0 0) := (cellq_any px).trans rfl; have y1 : w9.frozen? ⟨w8.heap.size, 1, none⟩ = false := (by unfold World.frozen?; rw [px]; rfl); have z2 : w9.cell? ⟨w8.heap.size, 2, none⟩ = some (.int .i64 0) := (cellq_any px).trans rfl; have y2 : w9.frozen? ⟨w8.heap.size, 2, none⟩ = false := (by unfold World.frozen?; rw [px]; rfl); have z3 : w9.cell? ⟨w8.heap.size, 3, none⟩ = some (.slice none 0 0) := (cellq_any px).trans rfl; have y3 : w9.frozen? ⟨w8.heap.size, 3, none⟩ = false := (by unfold World.frozen?; rw [px]; rfl); have z4 : w9.cell? ⟨w8.heap.size, 4, none⟩ = some (.slice none 0 0) := (cellq_any px).trans rfl; have y4 : w9.frozen? ⟨w8.heap.size, 4, none⟩ = false := (by unfold World.frozen?; rw [px]; rfl); have hzz : w8.heap.size < w9.heap.size := lt_of_block px; have hnn : w6.heap.size ≠ w8.heap.size := (by omega); have PW : Hid (w9.heap[w8.heap.size]? = some (.cells #[.slice none 0 0, .slice none 0 0, .int .i64 0, .slice none 0 0, .slice none 0 0] 26)) := px; have GK : Hid _ := MK.out _ _ (alloc_at w8 (.cells #[.slice none 0 0, .slice none 0 0, .int .i64 0, .slice none 0 0, .slice none 0 0] 26)); clear px) | (have px : w9.heap[w7.heap.size]? = some (.cells #[.slice none 0 0, .slice none 0 0, .int .i64 0, .slice none 0 0, .slice none 0 0] 26) := (by with_reducible exact Z9.out _ _ (Z8.out _ _ (alloc_at w7 (.cells #[.slice none 0 0, .slice none 0 0, .int .i64 0, .slice none 0 0, .slice none 0 0] 26)))); have z0 : w9.cell? ⟨w7.heap.size, 0, none⟩ = some (.slice none 0 0) := (cellq_any px).trans rfl; have y0 : w9.frozen? ⟨w7.heap.size, 0, none⟩ = false := (by unfold World.frozen?; rw [px]; rfl); have z1 : w9.cell? ⟨w7.heap.size, 1, none⟩ = some (.slice none 0 0) := (cellq_any px).trans rfl; have y1 : w9.frozen? ⟨w7.heap.size, 1, none⟩ = false := (by unfold World.frozen?; rw [px]; rfl); have z2 : w9.cell? ⟨w7.heap.size, 2, none⟩ = some (.int .i64 0) := (cellq_any px).trans rfl; have y2 : w9.frozen? ⟨w7.heap.size, 2, none⟩ = false := (by unfold World.frozen?; rw [px]; rfl); have z3 : w9.cell? ⟨w7.heap.size, 3, none⟩ = some (.slice none 0 0) := (cellq_any px).trans rfl; have y3 : w9.frozen? ⟨w7.heap.size, 3, none⟩ = false := (by unfold World.frozen?; rw [px]; rfl); have z4 : w9.cell? ⟨w7.heap.size, 4, none⟩ = some (.slice none 0 0) := (cellq_any px).trans rfl; have y4 : w9.frozen? ⟨w7.heap.size, 4, none⟩ = false := (by unfold World.frozen?; rw [px]; rfl); have hzz : w7.heap.size < w9.heap.size := lt_of_block px; have hnn : w6.heap.size ≠ w7.heap.size := (by omega); have PW : Hid (w9.heap[w7.heap.size]? = some (.cells #[.slice none 0 0, .slice none 0 0, .int .i64 0, .slice none 0 0, .slice none 0 0] 26)) := px; have GK : Hid _ := MK.out _ _ (Z8.out _ _ (alloc_at w7 (.cells #[.slice none 0 0, .slice none 0 0, .int .i64 0, .slice none 0 0, .slice none 0 0] 26))); clear px) | (have px : w9.heap[w6.heap.size + 1]? = some (.cells #[.slice none 0 0, .slice none 0 0, .int .i64 0, .slice none 0 0, .slice none 0 0] 26) := (by exact Z9.out _ _ (Z8.out _ _ (Z7.out _ _ ZC.out))); have z0 : w9.cell? ⟨w6.heap.size + 1, 0, none⟩ = some (.slice none 0 0) := (cellq_any px).trans rfl; have y0 : w9.frozen? ⟨w6.heap.size + 1, 0, none⟩ = false := (by unfold World.frozen?; rw [px]; rfl); have z1 : w9.cell? ⟨w6.heap.size + 1, 1, none⟩ = some (.slice none 0 0) := (cellq_any px).trans rfl; have y1 : w9.frozen? ⟨w6.heap.size + 1, 1, none⟩ = false := (by unfold World.frozen?; rw [px]; rfl); have z2 : w9.cell? ⟨w6.heap.size + 1, 2, none⟩ = some (.int .i64 0) := (cellq_any px).trans rfl; have y2 : w9.frozen? ⟨w6.heap.size + 1, 2, none⟩ = false := (by unfold World.frozen?; rw [px]; rfl); have z3 : w9.cell? ⟨w6.heap.size + 1, 3, none⟩ = some (.slice none 0 0) := (cellq_any px).trans rfl; have y3 : w9.frozen? ⟨w6.heap.size + 1, 3, none⟩ = false := (by unfold World.frozen?; rw [px]; rfl); have z4 : w9.cell? ⟨w6.heap.size + 1, 4, none⟩ = some (.slice none 0 0) := (cellq_any px).trans rfl; have y4 : w9.frozen? ⟨w6.heap.size + 1, 4, none⟩ = false := (by unfold World.frozen?; rw [px]; rfl); have hzz : w6.heap.size + 1 < w9.heap.size := lt_of_block px; have hnn : w6.heap.size ≠ w6.heap.size + 1 := (by omega); have PW : Hid (w9.heap[w6.heap.size + 1]? = some (.cells #[.slice none 0 0, .slice none 0 0, .int .i64 0, .slice none 0 0, .slice none 0 0] 26)) := px; have GK : Hid _ := MK.out _ _ (Z8.out _ _ (Z7.out _ _ ZC.out)); clear px) | skip)))
  · have P9 : Hid ((BG g w.heap.size (w9.alloc (bxG gd)) ∧ Below w.heap.size w (w9.alloc (bxG gd))) ∧ BG gd w9.heap.size (w9.alloc (bxG gd)) ∧ GAt 1048576 (w9.alloc (bxG gd)) gd) := ⟨(F9.out _ (below_alloc _ _)).2.1, BG.new (D9.out.1.mono (by omega)) D9.out.2, D9.out.1.later (below_alloc _ _)⟩
    clear Z7 Z8 Z9 FA F7 F8 ZC RC MK
    obtain ⟨x0, x1, x2, x3, x4⟩ := P9.out.1.1.cells
    obtain ⟨q0, q1, q2, q3, q4⟩ := P9.out.2.1.cells
    generalize (w9.alloc (bxG gd)) = wF at *
    go_wp2_with (first
      | (go_at_call 16; refine (num_g _ _).mono ?_; rintro e wN ⟨rfl, rfl⟩)
      | (go_at_call 15; refine (samegram_g _ g gd 1048576 (by omega) (P9.out.1.1.at_.ok OK.out) P9.out.2.2 SD.out.1).mono ?_; rintro e wG ⟨rfl, bG⟩))
    go_ret
    exact ⟨rfl, P9.out.1.2.trans (bG.mono P9.out.1.2.size)⟩
  · have P9 : Hid ((BG g w.heap.size (((((w9.setCell ⟨w8.heap.size, 0, none⟩ (.slice gd.ta gd.ts.length gd.tc)).setCell ⟨w8.heap.size, 1, none⟩ (.slice gd.na gd.ns.length gd.nc)).setCell ⟨w8.heap.size, 2, none⟩ (.int .i64 gd.start)).setCell ⟨w8.heap.size, 3, none⟩ (.slice gd.pa gd.ps.length gd.pc)).setCell ⟨w8.heap.size, 4, none⟩ (.slice gd.la gd.ls.length gd.lc)) ∧ Below w.heap.size w (((((w9.setCell ⟨w8.heap.size, 0, none⟩ (.slice gd.ta gd.ts.length gd.tc)).setCell ⟨w8.heap.size, 1, none⟩ (.slice gd.na gd.ns.length gd.nc)).setCell ⟨w8.heap.size, 2, none⟩ (.int .i64 gd.start)).setCell ⟨w8.heap.size, 3, none⟩ (.slice gd.pa gd.ps.length gd.pc)).setCell ⟨w8.heap.size, 4, none⟩ (.slice gd.la gd.ls.length gd.lc))) ∧ BG gd (w8.heap.size) (((((w9.setCell ⟨w8.heap.size, 0, none⟩ (.slice gd.ta gd.ts.length gd.tc)).setCell ⟨w8.heap.size, 1, none⟩ (.slice gd.na gd.ns.length gd.nc)).setCell ⟨w8.heap.size, 2, none⟩ (.int .i64 gd.start)).setCell ⟨w8.heap.size, 3, none⟩ (.slice gd.pa gd.ps.length gd.pc)).setCell ⟨w8.heap.size, 4, none⟩ (.slice gd.la gd.ls.length gd.lc)) ∧ GAt 1048576 (((((w9.setCell ⟨w8.heap.size, 0, none⟩ (.slice gd.ta gd.ts.length gd.tc)).setCell ⟨w8.heap.size, 1, none⟩ (.slice gd.na gd.ns.length gd.nc)).setCell ⟨w8.heap.size, 2, none⟩ (.int .i64 gd.start)).setCell ⟨w8.heap.size, 3, none⟩ (.slice gd.pa gd.ps.length gd.pc)).setCell ⟨w8.heap.size, 4, none⟩ (.slice gd.la gd.ls.length gd.lc)) gd) := by
      have h9 := (F9.out _ (Below.refl _ _)).2.1
      have hb6 := F6.out.1.2.size
      simp at hb6
      have hle : w.heap.size ≤ w8.heap.size := by omega
      have hB := five_bel (b := w8.heap.size) h9.2 hle (.slice gd.ta gd.ts.length gd.tc) (.slice gd.na gd.ns.length gd.nc) (.int .i64 gd.start) (.slice gd.pa gd.ps.length gd.pc) (.slice gd.la gd.ls.length gd.lc)
      have hG := GK.out (((((w9.setCell ⟨w8.heap.size, 0, none⟩ (.slice gd.ta gd.ts.length gd.tc)).setCell ⟨w8.heap.size, 1, none⟩ (.slice gd.na gd.ns.length gd.nc)).setCell ⟨w8.heap.size, 2, none⟩ (.int .i64 gd.start)).setCell ⟨w8.heap.size, 3, none⟩ (.slice gd.pa gd.ps.length gd.pc)).setCell ⟨w8.heap.size, 4, none⟩ (.slice gd.la gd.ls.length gd.lc)) (by simp) (fun j hj => five_ne (.slice gd.ta gd.ts.length gd.tc) (.slice gd.na gd.ns.length gd.nc) (.int .i64 gd.start) (.slice gd.pa gd.ps.length gd.pc) (.slice gd.la gd.ls.length gd.lc) j hj)
      have hl := lt_of_block (F6.out.1.1.box)
      have hn0 : w.heap.size < w6.heap.size := N6.out
      exact ⟨⟨⟨(five_ne (.slice gd.ta gd.ts.length gd.tc) (.slice gd.na gd.ns.length gd.nc) (.int .i64 gd.start) (.slice gd.pa gd.ps.length gd.pc) (.slice gd.la gd.ls.length gd.lc) w.heap.size (by omega)).trans h9.1.box, HG0.out _ hB, HPC.out⟩, hB⟩, ⟨five_at PW.out (.slice gd.ta gd.ts.length gd.tc) (.slice gd.na gd.ns.length gd.nc) (.int .i64 gd.start) (.slice gd.pa gd.ps.length gd.pc) (.slice gd.la gd.ls.length gd.lc), hG.mono (by omega), D9.out.2⟩, hG⟩
    clear Z7 Z8 Z9 FA F7 F8 ZC RC MK GK PW z0 z1 z2 z3 z4 y0 y1 y2 y3 y4 hzz
    obtain ⟨x0, x1, x2, x3, x4⟩ := P9.out.1.1.cells
    obtain ⟨q0, q1, q2, q3, q4⟩ := P9.out.2.1.cells
    generalize (((((w9.setCell ⟨w8.heap.size, 0, none⟩ (.slice gd.ta gd.ts.length gd.tc)).setCell ⟨w8.heap.size, 1, none⟩ (.slice gd.na gd.ns.length gd.nc)).setCell ⟨w8.heap.size, 2, none⟩ (.int .i64 gd.start)).setCell ⟨w8.heap.size, 3, none⟩ (.slice gd.pa gd.ps.length gd.pc)).setCell ⟨w8.heap.size, 4, none⟩ (.slice gd.la gd.ls.length gd.lc)) = wF at *
    go_wp2_with (first
      | (go_at_call 16; refine (num_g _ _).mono ?_; rintro e wN ⟨rfl, rfl⟩)
      | (go_at_call 15; refine (samegram_g _ g gd 1048576 (by omega) (P9.out.1.1.at_.ok OK.out) P9.out.2.2 SD.out.1).mono ?_; rintro e wG ⟨rfl, bG⟩))
    go_ret
    exact ⟨rfl, P9.out.1.2.trans (bG.mono P9.out.1.2.size)⟩
  · have P9 : Hid ((BG g w.heap.size (((((w9.setCell ⟨w7.heap.size, 0, none⟩ (.slice gd.ta gd.ts.length gd.tc)).setCell ⟨w7.heap.size, 1, none⟩ (.slice gd.na gd.ns.length gd.nc)).setCell ⟨w7.heap.size, 2, none⟩ (.int .i64 gd.start)).setCell ⟨w7.heap.size, 3, none⟩ (.slice gd.pa gd.ps.length gd.pc)).setCell ⟨w7.heap.size, 4, none⟩ (.slice gd.la gd.ls.length gd.lc)) ∧ Below w.heap.size w (((((w9.setCell ⟨w7.heap.size, 0, none⟩ (.slice gd.ta gd.ts.length gd.tc)).setCell ⟨w7.heap.size, 1, none⟩ (.slice gd.na gd.ns.length gd.nc)).setCell ⟨w7.heap.size, 2, none⟩ (.int .i64 gd.start)).setCell ⟨w7.heap.size, 3, none⟩ (.slice gd.pa gd.ps.length gd.pc)).setCell ⟨w7.heap.size, 4, none⟩ (.slice gd.la gd.ls.length gd.lc))) ∧ BG gd (w7.heap.size) (((((w9.setCell ⟨w7.heap.size, 0, none⟩ (.slice gd.ta gd.ts.length gd.tc)).setCell ⟨w7.heap.size, 1, none⟩ (.slice gd.na gd.ns.length gd.nc)).setCell ⟨w7.heap.size, 2, none⟩ (.int .i64 gd.start)).setCell ⟨w7.heap.size, 3, none⟩ (.slice gd.pa gd.ps.length gd.pc)).setCell ⟨w7.heap.size, 4, none⟩ (.slice gd.la gd.ls.length gd.lc)) ∧ GAt 1048576 (((((w9.setCell ⟨w7.heap.size, 0, none⟩ (.slice gd.ta gd.ts.length gd.tc)).setCell ⟨w7.heap.size, 1, none⟩ (.slice gd.na gd.ns.length gd.nc)).setCell ⟨w7.heap.size, 2, none⟩ (.int .i64 gd.start)).setCell ⟨w7.heap.size, 3, none⟩ (.slice gd.pa gd.ps.length gd.pc)).setCell ⟨w7.heap.size, 4, none⟩ (.slice gd.la gd.ls.length gd.lc)) gd) := by
      have h9 := (F9.out _ (Below.refl _ _)).2.1
      have hb6 := F6.out.1.2.size
      simp at hb6
      have hle : w.heap.size ≤ w7.heap.size := by omega
      have hB := five_bel (b := w7.heap.size) h9.2 hle (.slice gd.ta gd.ts.length gd.tc) (.slice gd.na gd.ns.length gd.nc) (.int .i64 gd.start) (.slice gd.pa gd.ps.length gd.pc) (.slice gd.la gd.ls.length gd.lc)
      have hG := GK.out (((((w9.setCell ⟨w7.heap.size, 0, none⟩ (.slice gd.ta gd.ts.length gd.tc)).setCell ⟨w7.heap.size, 1, none⟩ (.slice gd.na gd.ns.length gd.nc)).setCell ⟨w7.heap.size, 2, none⟩ (.int .i64 gd.start)).setCell ⟨w7.heap.size, 3, none⟩ (.slice gd.pa gd.ps.length gd.pc)).setCell ⟨w7.heap.size, 4, none⟩ (.slice gd.la gd.ls.length gd.lc)) (by simp) (fun j hj => five_ne (.slice gd.ta gd.ts.length gd.tc) (.slice gd.na gd.ns.length gd.nc) (.int .i64 gd.start) (.slice gd.pa gd.ps.length gd.pc) (.slice gd.la gd.ls.length gd.lc) j hj)
      have hl := lt_of_block (F6.out.1.1.box)
      have hn0 : w.heap.size < w6.heap.size := N6.out
      exact ⟨⟨⟨(five_ne (.slice gd.ta gd.ts.length gd.tc) (.slice gd.na gd.ns.length gd.nc) (.int .i64 gd.start) (.slice gd.pa gd.ps.length gd.pc) (.slice gd.la gd.ls.length gd.lc) w.heap.size (by omega)).trans h9.1.box, HG0.out _ hB, HPC.out⟩, hB⟩, ⟨five_at PW.out (.slice gd.ta gd.ts.length gd.tc) (.slice gd.na gd.ns.length gd.nc) (.int .i64 gd.start) (.slice gd.pa gd.ps.length gd.pc) (.slice gd.la gd.ls.length gd.lc), hG.mono (by omega), D9.out.2⟩, hG⟩
    clear Z7 Z8 Z9 FA F7 F8 ZC RC MK GK PW z0 z1 z2 z3 z4 y0 y1 y2 y3 y4 hzz
    obtain ⟨x0, x1, x2, x3, x4⟩ := P9.out.1.1.cells
    obtain ⟨q0, q1, q2, q3, q4⟩ := P9.out.2.1.cells
    generalize (((((w9.setCell ⟨w7.heap.size, 0, none⟩ (.slice gd.ta gd.ts.length gd.tc)).setCell ⟨w7.heap.size, 1, none⟩ (.slice gd.na gd.ns.length gd.nc)).setCell ⟨w7.heap.size, 2, none⟩ (.int .i64 gd.start)).setCell ⟨w7.heap.size, 3, none⟩ (.slice gd.pa gd.ps.length gd.pc)).setCell ⟨w7.heap.size, 4, none⟩ (.slice gd.la gd.ls.length gd.lc)) = wF at *
    go_wp2_with (first
      | (go_at_call 16; refine (num_g _ _).mono ?_; rintro e wN ⟨rfl, rfl⟩)
      | (go_at_call 15; refine (samegram_g _ g gd 1048576 (by omega) (P9.out.1.1.at_.ok OK.out) P9.out.2.2 SD.out.1).mono ?_; rintro e wG ⟨rfl, bG⟩))
    go_ret
    exact ⟨rfl, P9.out.1.2.trans (bG.mono P9.out.1.2.size)⟩
  · have P9 : Hid ((BG g w.heap.size (((((w9.setCell ⟨w6.heap.size + 1, 0, none⟩ (.slice gd.ta gd.ts.length gd.tc)).setCell ⟨w6.heap.size + 1, 1, none⟩ (.slice gd.na gd.ns.length gd.nc)).setCell ⟨w6.heap.size + 1, 2, none⟩ (.int .i64 gd.start)).setCell ⟨w6.heap.size + 1, 3, none⟩ (.slice gd.pa gd.ps.length gd.pc)).setCell ⟨w6.heap.size + 1, 4, none⟩ (.slice gd.la gd.ls.length gd.lc)) ∧ Below w.heap.size w (((((w9.setCell ⟨w6.heap.size + 1, 0, none⟩ (.slice gd.ta gd.ts.length gd.tc)).setCell ⟨w6.heap.size + 1, 1, none⟩ (.slice gd.na gd.ns.length gd.nc)).setCell ⟨w6.heap.size + 1, 2, none⟩ (.int .i64 gd.start)).setCell ⟨w6.heap.size + 1, 3, none⟩ (.slice gd.pa gd.ps.length gd.pc)).setCell ⟨w6.heap.size + 1, 4, none⟩ (.slice gd.la gd.ls.length gd.lc))) ∧ BG gd (w6.heap.size + 1) (((((w9.setCell ⟨w6.heap.size + 1, 0, none⟩ (.slice gd.ta gd.ts.length gd.tc)).setCell ⟨w6.heap.size + 1, 1, none⟩ (.slice gd.na gd.ns.length gd.nc)).setCell ⟨w6.heap.size + 1, 2, none⟩ (.int .i64 gd.start)).setCell ⟨w6.heap.size + 1, 3, none⟩ (.slice gd.pa gd.ps.length gd.pc)).setCell ⟨w6.heap.size + 1, 4, none⟩ (.slice gd.la gd.ls.length gd.lc)) ∧ GAt 1048576 (((((w9.setCell ⟨w6.heap.size + 1, 0, none⟩ (.slice gd.ta gd.ts.length gd.tc)).setCell ⟨w6.heap.size + 1, 1, none⟩ (.slice gd.na gd.ns.length gd.nc)).setCell ⟨w6.heap.size + 1, 2, none⟩ (.int .i64 gd.start)).setCell ⟨w6.heap.size + 1, 3, none⟩ (.slice gd.pa gd.ps.length gd.pc)).setCell ⟨w6.heap.size + 1, 4, none⟩ (.slice gd.la gd.ls.length gd.lc)) gd) := by
      have h9 := (F9.out _ (Below.refl _ _)).2.1
      have hb6 := F6.out.1.2.size
      simp at hb6
      have hle : w.heap.size ≤ w6.heap.size + 1 := by omega
      have hB := five_bel (b := w6.heap.size + 1) h9.2 hle (.slice gd.ta gd.ts.length gd.tc) (.slice gd.na gd.ns.length gd.nc) (.int .i64 gd.start) (.slice gd.pa gd.ps.length gd.pc) (.slice gd.la gd.ls.length gd.lc)
      have hG := GK.out (((((w9.setCell ⟨w6.heap.size + 1, 0, none⟩ (.slice gd.ta gd.ts.length gd.tc)).setCell ⟨w6.heap.size + 1, 1, none⟩ (.slice gd.na gd.ns.length gd.nc)).setCell ⟨w6.heap.size + 1, 2, none⟩ (.int .i64 gd.start)).setCell ⟨w6.heap.size + 1, 3, none⟩ (.slice gd.pa gd.ps.length gd.pc)).setCell ⟨w6.heap.size + 1, 4, none⟩ (.slice gd.la gd.ls.length gd.lc)) (by simp) (fun j hj => five_ne (.slice gd.ta gd.ts.length gd.tc) (.slice gd.na gd.ns.length gd.nc) (.int .i64 gd.start) (.slice gd.pa gd.ps.length gd.pc) (.slice gd.la gd.ls.length gd.lc) j hj)
      have hl := lt_of_block (F6.out.1.1.box)
      have hn0 : w.heap.size < w6.heap.size := N6.out
      exact ⟨⟨⟨(five_ne (.slice gd.ta gd.ts.length gd.tc) (.slice gd.na gd.ns.length gd.nc) (.int .i64 gd.start) (.slice gd.pa gd.ps.length gd.pc) (.slice gd.la gd.ls.length gd.lc) w.heap.size (by omega)).trans h9.1.box, HG0.out _ hB, HPC.out⟩, hB⟩, ⟨five_at PW.out (.slice gd.ta gd.ts.length gd.tc) (.slice gd.na gd.ns.length gd.nc) (.int .i64 gd.start) (.slice gd.pa gd.ps.length gd.pc) (.slice gd.la gd.ls.length gd.lc), hG.mono (by omega), D9.out.2⟩, hG⟩
    clear Z7 Z8 Z9 FA F7 F8 ZC RC MK GK PW z0 z1 z2 z3 z4 y0 y1 y2 y3 y4 hzz
    obtain ⟨x0, x1, x2, x3, x4⟩ := P9.out.1.1.cells
    obtain ⟨q0, q1, q2, q3, q4⟩ := P9.out.2.1.cells
    generalize (((((w9.setCell ⟨w6.heap.size + 1, 0, none⟩ (.slice gd.ta gd.ts.length gd.tc)).setCell ⟨w6.heap.size + 1, 1, none⟩ (.slice gd.na gd.ns.length gd.nc)).setCell ⟨w6.heap.size + 1, 2, none⟩ (.int .i64 gd.start)).setCell ⟨w6.heap.size + 1, 3, none⟩ (.slice gd.pa gd.ps.length gd.pc)).setCell ⟨w6.heap.size + 1, 4, none⟩ (.slice gd.la gd.ls.length gd.lc)) = wF at *
    go_wp2_with (first
      | (go_at_call 16; refine (num_g _ _).mono ?_; rintro e wN ⟨rfl, rfl⟩)
      | (go_at_call 15; refine (samegram_g _ g gd 1048576 (by omega) (P9.out.1.1.at_.ok OK.out) P9.out.2.2 SD.out.1).mono ?_; rintro e wG ⟨rfl, bG⟩))
    go_ret
    exact ⟨rfl, P9.out.1.2.trans (bG.mono P9.out.1.2.size)⟩
end Go.Proofs.YtbkhhackchdbnaaGreatDoor
namespace Go.Proofs.YtbkhhackchdbnaaGreatDoor
set_option linter.unusedVariables false
open Go.RowKit

theorem twice_walk (g : GV) (a1 a2 : Option Addr) (c1 c2 : Nat) (ts ns : List Int) (w : World) (hm : C.Magic w) (h : GAt 140737488355328 w g) (hpc : g.ps.length ≤ g.pc) (h1 : InRow w a1 ts) (h2 : InRow w a2 ns) (hl1 : ts.length ≤ 140737488355328) (hl2 : ns.length ≤ 140737488355328) :
    Calls Tryz.prog 6 #[g.val, .slice a1 ts.length c1, .slice a2 ns.length c2] w fun e w' => e = .returned (.bool true) ∧ Below w.heap.size w w' := by
  obtain ⟨er, at_, hE⟩ : ∃ er at_, checkG g (checkF g.ts g.ns) = (er, at_) := ⟨_, _, rfl⟩
  by_cases h0 : er = 0
  · subst h0
    by_cases hu : renU g ts ns = 0
    · exact twice_ok g a1 a2 c1 c2 ts ns w hm h hpc h1 h2 ⟨hl1, hl2⟩ at_ hE hu
    · exact twice_err g a1 a2 c1 c2 ts ns w hm h hpc h1 h2 ⟨hl1, hl2⟩ at_ hE _ rfl hu
  · exact twice_no g a1 a2 c1 c2 ts ns w hm h hpc h1 h2 ⟨hl1, hl2⟩ er at_ hE h0
end Go.Proofs.YtbkhhackchdbnaaGreatDoor
