import Derived.Test.YthgnhdnmcjpdmaaGreatDoorPGE5ToGE7
import Derived.Test.YthgnhdnmcjpdmaaGreatDoorPGDec12ToGDec14
import Derived.Test.YthgnhdnmcjpdmaaGreatDoorPGSmallToGAlive2
import Derived.Test.YthgnhdnmcjpdmaaGreatDoorPGOk2
namespace Go.Proofs.YthgnhdnmcjpdmaaGreatDoor
set_option linter.unusedVariables false
set_option maxRecDepth 100000
set_option maxHeartbeats 16000000
open Go.RowKit
def coreV (c : GC) : GV := ⟨none, 0, c.1, none, 0, c.2.1, c.2.2.1, none, 0, c.2.2.2.1.map fun x => ⟨x.1, none, 0, x.2.1, x.2.2⟩, none, 0, c.2.2.2.2.map fun x => ⟨x.1, none, 0, x.2⟩⟩
theorem coreV_core (c : GC) : (coreV c).core = c := by
 obtain ⟨ts, ns, st, ps, ls⟩ := c
 show (ts, ns, st, (ps.map _).map PV.core, (ls.map _).map LV.core) = _
 rw [List.map_map, List.map_map]
 congr 4
 ·exact (List.map_congr_left fun _ _ => rfl).trans (List.map_id ps)
 ·exact (List.map_congr_left fun _ _ => rfl).trans (List.map_id ls)
def ckC (c : GC) : Int := (checkG (coreV c) (checkF (coreV c).ts (coreV c).ns)).1
def decB (xs : List Int) : Int := (xs.length : Int) - 4 - ((C.openS 1 xs).1.length : Int)
def decG (xs : List Int) : GC × Nat × Int := grS (C.openS 1 xs).1 0 0
def decN (xs : List Int) : Int × Int := C.endS (C.openS 1 xs).1 (decG xs).2.1 (decG xs).2.2
def decE (xs : List Int) : Int × Int :=
 if (C.openS 1 xs).2.1 ≠ 0 then (C.openS 1 xs).2
 else if (decN xs).1 ≠ 0 then ((decN xs).1, decB xs + (decN xs).2)
 else if ckC (decG xs).1 ≠ 0 then (ckC (decG xs).1, decB xs)
 else (0, 0)
section
variable {α : Type} {zs : List Int} {R : Nat -> Int -> α × Nat × Int} {f : α -> List Int}
theorem ls_len (h : Rd zs R f) : ∀ (n p : Nat) (e : Int), p <= zs.length -> (lsS R n p e).1.length + p <= zs.length
 | 0, p, e, hp => by simpa [lsS] using hp
 | n + 1, p, e, hp => by
  have q := h.mono p e hp
  rw [lsS]
  by_cases h1 : (R p e).2.1 = p
  ·rw [if_pos h1]; simpa using hp
  ·rw [if_neg h1]
   have := ls_len h n (R p e).2.1 (R p e).2.2 q.2
   simp only [List.length_cons]
   omega
theorem ls_all (h : Rd zs R f) {Q : α -> Prop} (hq : ∀ p e, p <= zs.length -> Q (R p e).1) : ∀ (n p : Nat) (e : Int), p <= zs.length -> ∀ s ∈ (lsS R n p e).1, Q s
 | 0, p, e, hp => fun s hs => by simp [lsS] at hs
 | n + 1, p, e, hp => fun s hs => by
  have q := h.mono p e hp
  rw [lsS] at hs
  by_cases h1 : (R p e).2.1 = p
  ·rw [if_pos h1] at hs; simp at hs
  ·rw [if_neg h1] at hs
   rcases List.mem_cons.1 hs with rfl | hs
   ·exact hq p e hp
   ·exact ls_all h hq n (R p e).2.1 (R p e).2.2 q.2 s hs
theorem li_len (hb : C.isBytes zs) (h : Rd zs R f) (p : Nat) (e : Int) (hp : p <= zs.length) : (liS zs R p e).1.length <= zs.length := by
 have q := (rd_ct hb).mono p e hp
 have := ls_len h (ctS zs p e).1 (ctS zs p e).2.1 (ctS zs p e).2.2 q.2
 rw [liS]; omega
theorem li_all (hb : C.isBytes zs) (h : Rd zs R f) {Q : α -> Prop} (hq : ∀ p e, p <= zs.length -> Q (R p e).1) (p : Nat) (e : Int) (hp : p <= zs.length) : ∀ s ∈ (liS zs R p e).1, Q s :=
 ls_all h hq _ _ _ ((rd_ct hb).mono p e hp).2
end
theorem tx_size {zs : List Int} (p : Nat) (e : Int) : (txS zs p e).1.size <= zs.length := by
 rw [txS]
 by_cases h1 : e ≠ 0
 ·rw [if_pos h1]; exact Nat.zero_le _
 rw [if_neg h1]
 by_cases h2 : (C.countS zs p 1 65536).2.2 ≠ 0
 ·rw [if_pos h2]; exact Nat.zero_le _
 rw [if_neg h2]
 show (C.toStr _).size <= _
 have : ∀ l : List Int, (C.toStr l).size = l.length := fun l => by simp [C.toStr, ByteArray.size]
 rw [this, List.length_take, List.length_drop]
 omega
structure BdC (n : Nat) (c : GC) : Prop where
 tl : c.1.length <= n
 nl : c.2.1.length <= n
 pl : c.2.2.2.1.length <= n
 ll : c.2.2.2.2.length <= n
 tz : ∀ s ∈ c.1, s.size <= n
 nz : ∀ s ∈ c.2.1, s.size <= n
 rl : ∀ s ∈ c.2.2.2.1, s.2.1.length <= n
 vl : ∀ s ∈ c.2.2.2.2, s.2.length <= n
theorem bdC_gr {zs : List Int} (hb : C.isBytes zs) (p : Nat) (e : Int) (hp : p <= zs.length) : BdC zs.length (grS zs p e).1 := by
 have ht := (rd_li hb (rd_tx hb)).toRd
 have q1 := ht.mono p e hp
 have q2 := ht.mono _ (liS zs (txS zs) p e).2.2 q1.2
 have q3 := (rd_in hb).mono _ (liS zs (txS zs) (liS zs (txS zs) p e).2.1 (liS zs (txS zs) p e).2.2).2.2 q2.2
 have q4 := (rd_li hb (rd_pr hb)).mono _ (itS zs (liS zs (txS zs) (liS zs (txS zs) p e).2.1 (liS zs (txS zs) p e).2.2).2.1 (liS zs (txS zs) (liS zs (txS zs) p e).2.1 (liS zs (txS zs) p e).2.2).2.2).2.2 q3.2
 refine ⟨li_len hb (rd_tx hb).toRd p e hp, li_len hb (rd_tx hb).toRd _ _ q1.2, li_len hb (rd_pr hb).toRd _ _ q3.2, li_len hb (rd_lv hb).toRd _ _ q4.2,
  li_all hb (rd_tx hb).toRd (fun p e _ => tx_size p e) p e hp, li_all hb (rd_tx hb).toRd (fun p e _ => tx_size p e) _ _ q1.2,
  li_all hb (rd_pr hb).toRd (fun p e hp => ?_) _ _ q3.2, li_all hb (rd_lv hb).toRd (fun p e hp => ?_) _ _ q4.2⟩
 ·exact li_len hb (rd_sy hb).toRd _ _ ((rd_in hb).mono p e hp).2
 ·exact li_len hb (rd_in hb).toRd _ _ ((rd_in hb).mono p e hp).2
theorem DG.at2 {B n : Nat} {w : World} {g : GV} (h : DG B w g) (hb : BdC n g.core) (hn : n <= 140737488355328) : GAt 140737488355328 w g /\ g.ps.length <= g.pc := by
 obtain ⟨a1, c1, e1, r1, _⟩ := h.t.1.row
 obtain ⟨a2, c2, e2, r2, _⟩ := h.n_.1.row
 cases e1
 cases e2
 have o1 : g.ts.length <= n := hb.tl
 have o2 : g.ns.length <= n := hb.nl
 have o3 : (g.ps.map PV.core).length <= n := hb.pl
 have o4 : (g.ls.map LV.core).length <= n := hb.ll
 rw [List.length_map] at o3 o4
 refine ⟨⟨r1, r2, h.p.at, h.l.at, fun s m => Nat.le_trans (hb.tz s m) (by unfold maxLen; omega), fun s m => Nat.le_trans (hb.nz s m) (by unfold maxLen; omega), by omega, by omega, by omega, by omega, fun p hp => ?_, fun p hp => ?_⟩, h.p.cap⟩
 ·exact Nat.le_trans (hb.rl p.core (List.mem_map_of_mem hp)) hn
 ·exact Nat.le_trans (hb.vl p.core (List.mem_map_of_mem hp)) hn
theorem same_coreV {g : GV} {c : GC} (h : g.core = c) : SameG (coreV c) g := same_of_core (by rw [coreV_core]; exact h)
theorem dec_fin (w : World) (ao : Option Addr) (N cap : Nat) (xs : List Int) (hN : N = xs.length) (hl : xs.length <= 140737488355328) (hcap : xs.length <= cap) (hr : C.RowAt w ao xs) (hm : C.Magic w) (zs : List Int) (oa : Int) (hF : C.openS 1 xs = (zs, 0, oa)) (gc : GC) (P : Nat) (E : Int) (hG : grS zs 0 0 = (gc, P, E)) (ea : Int) (hEnd : C.endS zs P E = (0, ea)) (at_ : Int) (hC : checkG (coreV gc) (checkF (coreV gc).ts (coreV gc).ns) = (0, at_)) :
  Calls Tryz.prog 9 #[.slice ao N cap] w fun e w' => ∃ g', e = .returned (.tuple #[g'.val, .int .i64 0, .int .i64 0]) /\ g'.core = gc /\ DG w.heap.size w' g' /\ Below w.heap.size w w' := by
 have HMG : ∀ w0 : World, Below w.heap.size w w0 -> C.Magic w0 := fun w0 hb => C.Magic.later hm hb hm.lt
 have HRW : ∀ w0 : World, Below w.heap.size w w0 -> C.RowAt w0 ao xs := fun w0 hb => C.RowAt.later hr hb
 have HOP : Hid (∀ w0 : World, Below w.heap.size w w0 -> Calls Tryz.prog 36 #[.int .u8 1, .slice ao N cap] w0 fun e w' => ∃ a c, e = .returned (.tuple #[.slice a zs.length c, .int .i64 0, .int .i64 oa]) /\ C.RowAt w' a zs /\ (a = none -> c = 0) /\ Below w0.heap.size w0 w') := fun w0 hb => (C.open_any 1 ao N cap _ w0 hN (by omega) (by omega) hl hcap (HMG w0 hb) (HRW w0 hb)).mono fun e w' he => by
  obtain ⟨v, rfl, ho, _, hb'⟩ := he
  rw [hF] at ho ⊢
  obtain ⟨a, c, rfl, hn, hr2⟩ := C.Own.row ho
  exact ⟨a, c, rfl, hr2, fun h => (hn h).2, hb'⟩
 have hNl : N <= 140737488355328 := by omega
 have hzl : zs.length <= 16777216 := (C.frame_open 1 xs hr.1 zs oa hF).2.1
 have HZL : Hid (zs.length <= 16777216) := hzl
 have HGR : Hid (grS zs 0 0 = (gc, P, E)) := hG
 have HEND : Hid (C.endS zs P E = (0, ea)) := hEnd
 have hbz : C.isBytes zs := (C.frame_open 1 xs hr.1 zs oa hF).2.2.1
 have HAT : Hid (∀ (B : Nat) (w : World) (g : GV), g.core = gc -> DG B w g -> GAt 140737488355328 w g /\ g.ps.length <= g.pc) := fun B w g e d => d.at2 (n := zs.length) (by rw [e]; have := bdC_gr hbz 0 0 (Nat.zero_le _); rw [hG] at this; exact this) (by omega)
 have HCK : Hid (checkG (coreV gc) (checkF (coreV gc).ts (coreV gc).ns) = (0, at_)) := hC
 have KEEP : Hid (∀ (w1 w2 w3 w4 w5 : World) (r : Nat), Below (w.alloc (.cells #[.slice none 0 0, .slice none 0 0, .int .i64 0, .slice none 0 0, .slice none 0 0] 26)).heap.size (w.alloc (.cells #[.slice none 0 0, .slice none 0 0, .int .i64 0, .slice none 0 0, .slice none 0 0] 26)) w1 -> Below w1.heap.size w1 w2 -> w1.heap.size <= r -> C.ROnly w2 w3 r -> Below w3.heap.size w3 w4 -> Below w4.heap.size w4 w5 -> w5.heap[w.heap.size]? = some (.cells #[.slice none 0 0, .slice none 0 0, .int .i64 0, .slice none 0 0, .slice none 0 0] 26 (0, 0))) := fun w1 w2 w3 w4 w5 r b1 b2 lr o3 b4 b5 => by
  have hs : w.heap.size < (w.alloc (.cells #[.slice none 0 0, .slice none 0 0, .int .i64 0, .slice none 0 0, .slice none 0 0] 26)).heap.size := lt_of_block (heap_alloc_new w _)
  have s1 := b1.size
  have s2 := b2.size
  have s3 := o3.size
  have s4 := b4.size
  rw [b5.block _ (by omega), b4.block _ (by omega), o3.block _ (by omega) (by omega), b2.block _ (by omega), b1.block _ hs]
  exact heap_alloc_new w _
 clear hN hl hcap hr hm HMG HRW hF hG hEnd hC hbz
 go_enter Tryz.func9, Tryz.ntmps9
 go_wp2_with (first
  | (go_at_call 36; refine (HOP.out _ (by first | exact below_alloc _ _ | exact (two_alloc _ _ _).1 | exact Below.refl _ _)).mono ?_; rintro e w1 ⟨ba, bc, rfl, hr1', hc1', hb1'⟩; have R1 : Hid _ := hr1'; have C1 : Hid _ := hc1'; have B1 : Hid _ := hb1'; clear hr1' hc1' hb1')
  | (go_at_call 37; refine (newreader_own ba _ bc zs w1 rfl (Nat.le_trans HZL.out (by omega)) R1.out C1.out).mono ?_; rintro e w2 ⟨r, ro, rN, rc, rfl, hR', hr', hg', hb'⟩; have R2 : Hid _ := hR'; have L2 : Hid _ := hr'; have G2 : Hid _ := hg'; have B2 : Hid _ := hb'; clear hR' hr' hg' hb')
  | (go_at_call 38; refine (xgram R2.out (fun g0 eg => (G2.out g0 eg).2) HZL.out gc P E HGR.out).mono ?_; rintro e w3 ⟨g', rfl, sm', dg', hR', ho'⟩; have SM : Hid (g'.core = gc) := sm'; have D3 : Hid _ := dg'; have R3 : Hid _ := hR'; have O3 : Hid _ := ho'; clear sm' dg' hR' ho')
  | (go_at_call 39; refine (C.rend_eq (R3.out.later (below_alloc w3 _)) 0 ea HEND.out).mono ?_; rintro e w4 ⟨rfl, n4, hw4⟩; have bx4 : w4.heap[w3.heap.size]? = some (.cells #[.slice g'.ta g'.ts.length g'.tc, .slice g'.na g'.ns.length g'.nc, .int .i64 g'.start, .slice g'.pa g'.ps.length g'.pc, .slice g'.la g'.ls.length g'.lc] 26 (0, 0)) := (by rw [hw4]; exact heap_alloc_new w3 _); have B4 : Hid (Below w3.heap.size w3 w4) := (by rw [hw4]; exact below_drewN (below_alloc w3 _) n4); have X4 : Hid _ := bx4; have c0 : w4.cell? ⟨w3.heap.size, 0, none⟩ = some (.slice g'.ta g'.ts.length g'.tc) := (by rw [cellq_any bx4]; rfl); have c1 : w4.cell? ⟨w3.heap.size, 1, none⟩ = some (.slice g'.na g'.ns.length g'.nc) := (by rw [cellq_any bx4]; rfl); have c2 : w4.cell? ⟨w3.heap.size, 2, none⟩ = some (.int .i64 g'.start) := (by rw [cellq_any bx4]; rfl); have c3 : w4.cell? ⟨w3.heap.size, 3, none⟩ = some (.slice g'.pa g'.ps.length g'.pc) := (by rw [cellq_any bx4]; rfl); have c4 : w4.cell? ⟨w3.heap.size, 4, none⟩ = some (.slice g'.la g'.ls.length g'.lc) := (by rw [cellq_any bx4]; rfl); clear hw4 bx4)
  | (go_at_call 17; refine (check_G g' w4 ((HAT.out _ _ _ SM.out D3.out).1.later B4.out) (HAT.out _ _ _ SM.out D3.out).2 0 at_ ((same_check (same_coreV SM.out)).trans HCK.out)).mono ?_; rintro e w5 ⟨rfl, hb5'⟩; have B5 : Hid _ := hb5'; have bx5 := (hb5'.block _ (lt_of_block X4.out)).trans X4.out; clear c0 c1 c2 c3 c4; have c0 : w5.cell? ⟨w3.heap.size, 0, none⟩ = some (.slice g'.ta g'.ts.length g'.tc) := (by rw [cellq_any bx5]; rfl); have c1 : w5.cell? ⟨w3.heap.size, 1, none⟩ = some (.slice g'.na g'.ns.length g'.nc) := (by rw [cellq_any bx5]; rfl); have c2 : w5.cell? ⟨w3.heap.size, 2, none⟩ = some (.int .i64 g'.start) := (by rw [cellq_any bx5]; rfl); have c3 : w5.cell? ⟨w3.heap.size, 3, none⟩ = some (.slice g'.pa g'.ps.length g'.pc) := (by rw [cellq_any bx5]; rfl); have c4 : w5.cell? ⟨w3.heap.size, 4, none⟩ = some (.slice g'.la g'.ls.length g'.lc) := (by rw [cellq_any bx5]; rfl); have e5 : w5.heap[w.heap.size]? = some (.cells #[.slice none 0 0, .slice none 0 0, .int .i64 0, .slice none 0 0, .slice none 0 0] 26 (0, 0)) := KEEP.out w1 w2 w3 w4 w5 r B1.out B2.out L2.out O3.out B4.out B5.out; have x0 : w5.cell? ⟨w.heap.size, 0, none⟩ = some (.slice none 0 0) := (by rw [cellq_any e5]; rfl); have y0 : w5.frozen? ⟨w.heap.size, 0, none⟩ = false := (by simp [World.frozen?, e5]); have x1 : w5.cell? ⟨w.heap.size, 1, none⟩ = some (.slice none 0 0) := (by rw [cellq_any e5]; rfl); have y1 : w5.frozen? ⟨w.heap.size, 1, none⟩ = false := (by simp [World.frozen?, e5]); have x2 : w5.cell? ⟨w.heap.size, 2, none⟩ = some (.int .i64 0) := (by rw [cellq_any e5]; rfl); have y2 : w5.frozen? ⟨w.heap.size, 2, none⟩ = false := (by simp [World.frozen?, e5]); have x3 : w5.cell? ⟨w.heap.size, 3, none⟩ = some (.slice none 0 0) := (by rw [cellq_any e5]; rfl); have y3 : w5.frozen? ⟨w.heap.size, 3, none⟩ = false := (by simp [World.frozen?, e5]); have x4 : w5.cell? ⟨w.heap.size, 4, none⟩ = some (.slice none 0 0) := (by rw [cellq_any e5]; rfl); have y4 : w5.frozen? ⟨w.heap.size, 4, none⟩ = false := (by simp [World.frozen?, e5]); have hz5 : w.heap.size < w5.heap.size := lt_of_block e5; have hz6 : w3.heap.size < w5.heap.size := lt_of_block bx5; clear bx5 e5 hb5'))
 have hb9 : Below w.heap.size w5 (((((w5.setCell ⟨w.heap.size, 0, none⟩ (.slice g'.ta g'.ts.length g'.tc)).setCell ⟨w.heap.size, 1, none⟩ (.slice g'.na g'.ns.length g'.nc)).setCell ⟨w.heap.size, 2, none⟩ (.int .i64 g'.start)).setCell ⟨w.heap.size, 3, none⟩ (.slice g'.pa g'.ps.length g'.pc)).setCell ⟨w.heap.size, 4, none⟩ (.slice g'.la g'.ls.length g'.lc)) :=
  ((((own_set _ _ _ (Nat.le_refl _)).trans (own_set _ _ _ (Nat.le_refl _))).trans (own_set _ _ _ (Nat.le_refl _))).trans (own_set _ _ _ (Nat.le_refl _))).trans (own_set _ _ _ (Nat.le_refl _))
 have s0 := (below_alloc w (.cells #[.slice none 0 0, .slice none 0 0, .int .i64 0, .slice none 0 0, .slice none 0 0] 26)).size
 have hs : w.heap.size < (w.alloc (.cells #[.slice none 0 0, .slice none 0 0, .int .i64 0, .slice none 0 0, .slice none 0 0] 26)).heap.size := lt_of_block (heap_alloc_new w _)
 have s1 := B1.out.size
 have s2 := B2.out.size
 have s3 := O3.out.size
 have s4 := B4.out.size
 have lr := L2.out
 have hbw : Below w.heap.size w (((((w5.setCell ⟨w.heap.size, 0, none⟩ (.slice g'.ta g'.ts.length g'.tc)).setCell ⟨w.heap.size, 1, none⟩ (.slice g'.na g'.ns.length g'.nc)).setCell ⟨w.heap.size, 2, none⟩ (.int .i64 g'.start)).setCell ⟨w.heap.size, 3, none⟩ (.slice g'.pa g'.ps.length g'.pc)).setCell ⟨w.heap.size, 4, none⟩ (.slice g'.la g'.ls.length g'.lc)) := ((((((below_alloc w _).trans (B1.out.mono s0)).trans (B2.out.mono (Nat.le_trans s0 s1))).trans (O3.out.below (by omega) (by omega))).trans (B4.out.mono (by omega))).trans (B5.out.mono (by omega))).trans hb9
 refine bodyPost_ret (v := .tuple #[g'.val, .int .i64 0, .int .i64 0]) (by simp [results, Tryz.results9, go_sem, x0, x1, x2, x3, x4]) rfl ?_
 refine ⟨g', rfl, SM.out, (D3.out.kept fun k hk hks => ?_).mono (by omega), hbw⟩
 have hne : k ≠ w.heap.size := by omega
 rw [Below.heap_setCell _ _ _ _ hne, Below.heap_setCell _ _ _ _ hne, Below.heap_setCell _ _ _ _ hne, Below.heap_setCell _ _ _ _ hne, Below.heap_setCell _ _ _ _ hne]
 exact (B5.out.block k (by omega)).trans (B4.out.block k hks)
theorem dec_open (w : World) (ao : Option Addr) (N cap : Nat) (xs : List Int) (hN : N = xs.length) (hl : xs.length <= 140737488355328) (hcap : xs.length <= cap) (hr : C.RowAt w ao xs) (hm : C.Magic w) (zs : List Int) (oe oa : Int) (hF : C.openS 1 xs = (zs, oe, oa)) (h0 : oe ≠ 0) :
  Calls Tryz.prog 9 #[.slice ao N cap] w fun e w' => e = .returned (.tuple #[.agg #[.slice none 0 0, .slice none 0 0, .int .i64 0, .slice none 0 0, .slice none 0 0], .int .i64 oe, .int .i64 oa]) /\ Below w.heap.size w w' := by
 have HMG : ∀ w0 : World, Below w.heap.size w w0 -> C.Magic w0 := fun w0 hb => C.Magic.later hm hb hm.lt
 have HRW : ∀ w0 : World, Below w.heap.size w w0 -> C.RowAt w0 ao xs := fun w0 hb => C.RowAt.later hr hb
 have HOP : Hid (∀ w0 : World, Below w.heap.size w w0 -> Calls Tryz.prog 36 #[.int .u8 1, .slice ao N cap] w0 fun e w' => ∃ a c, e = .returned (.tuple #[.slice a zs.length c, .int .i64 oe, .int .i64 oa]) /\ C.RowAt w' a zs /\ (a = none -> c = 0) /\ Below w0.heap.size w0 w') := fun w0 hb => (C.open_any 1 ao N cap _ w0 hN (by omega) (by omega) hl hcap (HMG w0 hb) (HRW w0 hb)).mono fun e w' he => by
  obtain ⟨v, rfl, ho, _, hb'⟩ := he
  rw [hF] at ho ⊢
  obtain ⟨a, c, rfl, hn, hr2⟩ := C.Own.row ho
  exact ⟨a, c, rfl, hr2, fun h => (hn h).2, hb'⟩
 have hNl : N <= 140737488355328 := by omega
 have he : (oe != 0) = true := by simpa using h0
 clear hN hl hcap hr hm HMG HRW hF h0
 go_enter Tryz.func9, Tryz.ntmps9
 go_wp2_with (first
  | (go_at_call 36; refine (HOP.out _ (by first | exact below_alloc _ _ | exact (two_alloc _ _ _).1 | exact Below.refl _ _)).mono ?_; rintro e w1 ⟨ba, bc, rfl, hr1', hc1', hb1'⟩; have R1 : Hid _ := hr1'; have C1 : Hid _ := hc1'; have B1 : Hid _ := hb1'; have ex1 : w1.heap[w.heap.size]? = some (.cells #[.slice none 0 0, .slice none 0 0, .int .i64 0, .slice none 0 0, .slice none 0 0] 26 (0, 0)) := (hb1'.block _ (lt_of_block (heap_alloc_new w _))).trans (heap_alloc_new w _); have x0 : w1.cell? ⟨w.heap.size, 0, none⟩ = some (.slice none 0 0) := (by rw [cellq_any ex1]; rfl); have y0 : w1.frozen? ⟨w.heap.size, 0, none⟩ = false := (by simp [World.frozen?, ex1]); have x1 : w1.cell? ⟨w.heap.size, 1, none⟩ = some (.slice none 0 0) := (by rw [cellq_any ex1]; rfl); have y1 : w1.frozen? ⟨w.heap.size, 1, none⟩ = false := (by simp [World.frozen?, ex1]); have x2 : w1.cell? ⟨w.heap.size, 2, none⟩ = some (.int .i64 0) := (by rw [cellq_any ex1]; rfl); have y2 : w1.frozen? ⟨w.heap.size, 2, none⟩ = false := (by simp [World.frozen?, ex1]); have x3 : w1.cell? ⟨w.heap.size, 3, none⟩ = some (.slice none 0 0) := (by rw [cellq_any ex1]; rfl); have y3 : w1.frozen? ⟨w.heap.size, 3, none⟩ = false := (by simp [World.frozen?, ex1]); have x4 : w1.cell? ⟨w.heap.size, 4, none⟩ = some (.slice none 0 0) := (by rw [cellq_any ex1]; rfl); have y4 : w1.frozen? ⟨w.heap.size, 4, none⟩ = false := (by simp [World.frozen?, ex1]); have hz5 : w.heap.size < w1.heap.size := lt_of_block ex1; clear hr1' hc1' hb1' ex1))
 have hb9 : Below w.heap.size w1 (((((w1.setCell ⟨w.heap.size, 0, none⟩ (.slice none 0 0)).setCell ⟨w.heap.size, 1, none⟩ (.slice none 0 0)).setCell ⟨w.heap.size, 2, none⟩ (.int .i64 0)).setCell ⟨w.heap.size, 3, none⟩ (.slice none 0 0)).setCell ⟨w.heap.size, 4, none⟩ (.slice none 0 0)) := ((((own_set _ _ _ (Nat.le_refl _)).trans (own_set _ _ _ (Nat.le_refl _))).trans (own_set _ _ _ (Nat.le_refl _))).trans (own_set _ _ _ (Nat.le_refl _))).trans (own_set _ _ _ (Nat.le_refl _))
 refine bodyPost_ret (v := .tuple #[.agg #[.slice none 0 0, .slice none 0 0, .int .i64 0, .slice none 0 0, .slice none 0 0], .int .i64 oe, .int .i64 (oa)]) (by simp [results, Tryz.results9, go_sem, x0, x1, x2, x3, x4]) rfl ?_
 have s0 := (below_alloc w (.cells #[.slice none 0 0, .slice none 0 0, .int .i64 0, .slice none 0 0, .slice none 0 0] 26)).size
 exact ⟨rfl, ((below_alloc w _).trans (B1.out.mono s0)).trans hb9⟩
theorem dec_end (w : World) (ao : Option Addr) (N cap : Nat) (xs : List Int) (hN : N = xs.length) (hl : xs.length <= 140737488355328) (hcap : xs.length <= cap) (hr : C.RowAt w ao xs) (hm : C.Magic w) (zs : List Int) (oa : Int) (hF : C.openS 1 xs = (zs, 0, oa)) (gc : GC) (P : Nat) (E : Int) (hG : grS zs 0 0 = (gc, P, E)) (ee ea : Int) (hEnd : C.endS zs P E = (ee, ea)) (h0 : ee ≠ 0) (hea : 0 <= ea /\ ea <= 16777216) :
  Calls Tryz.prog 9 #[.slice ao N cap] w fun e w' => e = .returned (.tuple #[.agg #[.slice none 0 0, .slice none 0 0, .int .i64 0, .slice none 0 0, .slice none 0 0], .int .i64 ee, .int .i64 ((N : Int) - 4 - (zs.length : Int) + ea)]) /\ Below w.heap.size w w' := by
 have HMG : ∀ w0 : World, Below w.heap.size w w0 -> C.Magic w0 := fun w0 hb => C.Magic.later hm hb hm.lt
 have HRW : ∀ w0 : World, Below w.heap.size w w0 -> C.RowAt w0 ao xs := fun w0 hb => C.RowAt.later hr hb
 have HOP : Hid (∀ w0 : World, Below w.heap.size w w0 -> Calls Tryz.prog 36 #[.int .u8 1, .slice ao N cap] w0 fun e w' => ∃ a c, e = .returned (.tuple #[.slice a zs.length c, .int .i64 0, .int .i64 oa]) /\ C.RowAt w' a zs /\ (a = none -> c = 0) /\ Below w0.heap.size w0 w') := fun w0 hb => (C.open_any 1 ao N cap _ w0 hN (by omega) (by omega) hl hcap (HMG w0 hb) (HRW w0 hb)).mono fun e w' he => by
  obtain ⟨v, rfl, ho, _, hb'⟩ := he
  rw [hF] at ho ⊢
  obtain ⟨a, c, rfl, hn, hr2⟩ := C.Own.row ho
  exact ⟨a, c, rfl, hr2, fun h => (hn h).2, hb'⟩
 have hNl : N <= 140737488355328 := by omega
 have hzl : zs.length <= 16777216 := (C.frame_open 1 xs hr.1 zs oa hF).2.1
 have HZL : Hid (zs.length <= 16777216) := hzl
 have HGR : Hid (grS zs 0 0 = (gc, P, E)) := hG
 have HEND : Hid (C.endS zs P E = (ee, ea)) := hEnd
 have he : (ee != 0) = true := by simpa using h0
 have KEEP : Hid (∀ (w1 w2 w3 w4 w5 : World) (r : Nat), Below (w.alloc (.cells #[.slice none 0 0, .slice none 0 0, .int .i64 0, .slice none 0 0, .slice none 0 0] 26)).heap.size (w.alloc (.cells #[.slice none 0 0, .slice none 0 0, .int .i64 0, .slice none 0 0, .slice none 0 0] 26)) w1 -> Below w1.heap.size w1 w2 -> w1.heap.size <= r -> C.ROnly w2 w3 r -> Below w3.heap.size w3 w4 -> Below w4.heap.size w4 w5 -> w5.heap[w.heap.size]? = some (.cells #[.slice none 0 0, .slice none 0 0, .int .i64 0, .slice none 0 0, .slice none 0 0] 26 (0, 0))) := fun w1 w2 w3 w4 w5 r b1 b2 lr o3 b4 b5 => by
  have hs : w.heap.size < (w.alloc (.cells #[.slice none 0 0, .slice none 0 0, .int .i64 0, .slice none 0 0, .slice none 0 0] 26)).heap.size := lt_of_block (heap_alloc_new w _)
  have s1 := b1.size
  have s2 := b2.size
  have s3 := o3.size
  have s4 := b4.size
  rw [b5.block _ (by omega), b4.block _ (by omega), o3.block _ (by omega) (by omega), b2.block _ (by omega), b1.block _ hs]
  exact heap_alloc_new w _
 clear hN hl hcap hr hm HMG HRW hF h0 hG hEnd
 go_enter Tryz.func9, Tryz.ntmps9
 go_wp2_with (first
  | (go_at_call 36; refine (HOP.out _ (by first | exact below_alloc _ _ | exact (two_alloc _ _ _).1 | exact Below.refl _ _)).mono ?_; rintro e w1 ⟨ba, bc, rfl, hr1', hc1', hb1'⟩; have R1 : Hid _ := hr1'; have C1 : Hid _ := hc1'; have B1 : Hid _ := hb1'; clear hr1' hc1' hb1')
  | (go_at_call 37; refine (newreader_own ba _ bc zs w1 rfl (Nat.le_trans HZL.out (by omega)) R1.out C1.out).mono ?_; rintro e w2 ⟨r, ro, rN, rc, rfl, hR', hr', hg', hb'⟩; have R2 : Hid _ := hR'; have L2 : Hid _ := hr'; have G2 : Hid _ := hg'; have B2 : Hid _ := hb'; clear hR' hr' hg' hb')
  | (go_at_call 38; refine (xgram R2.out (fun g0 eg => (G2.out g0 eg).2) HZL.out gc P E HGR.out).mono ?_; rintro e w3 ⟨g', rfl, sm', dg', hR', ho'⟩; have SM : Hid (g'.core = gc) := sm'; have D3 : Hid _ := dg'; have R3 : Hid _ := hR'; have O3 : Hid _ := ho'; clear sm' dg' hR' ho')
  | (go_at_call 39; refine (C.rend_eq (R3.out.later (below_alloc w3 _)) ee ea HEND.out).mono ?_; rintro e w4 ⟨rfl, n4, hw4⟩; have bx4 : w4.heap[w3.heap.size]? = some (.cells #[.slice g'.ta g'.ts.length g'.tc, .slice g'.na g'.ns.length g'.nc, .int .i64 g'.start, .slice g'.pa g'.ps.length g'.pc, .slice g'.la g'.ls.length g'.lc] 26 (0, 0)) := (by rw [hw4]; exact heap_alloc_new w3 _); have B4 : Hid (Below w3.heap.size w3 w4) := (by rw [hw4]; exact below_drewN (below_alloc w3 _) n4); have X4 : Hid _ := bx4; have c0 : w4.cell? ⟨w3.heap.size, 0, none⟩ = some (.slice g'.ta g'.ts.length g'.tc) := (by rw [cellq_any bx4]; rfl); have c1 : w4.cell? ⟨w3.heap.size, 1, none⟩ = some (.slice g'.na g'.ns.length g'.nc) := (by rw [cellq_any bx4]; rfl); have c2 : w4.cell? ⟨w3.heap.size, 2, none⟩ = some (.int .i64 g'.start) := (by rw [cellq_any bx4]; rfl); have c3 : w4.cell? ⟨w3.heap.size, 3, none⟩ = some (.slice g'.pa g'.ps.length g'.pc) := (by rw [cellq_any bx4]; rfl); have c4 : w4.cell? ⟨w3.heap.size, 4, none⟩ = some (.slice g'.la g'.ls.length g'.lc) := (by rw [cellq_any bx4]; rfl); have e5 : w4.heap[w.heap.size]? = some (.cells #[.slice none 0 0, .slice none 0 0, .int .i64 0, .slice none 0 0, .slice none 0 0] 26 (0, 0)) := KEEP.out w1 w2 w3 w4 w4 r B1.out B2.out L2.out O3.out B4.out (Below.refl _ _); have x0 : w4.cell? ⟨w.heap.size, 0, none⟩ = some (.slice none 0 0) := (by rw [cellq_any e5]; rfl); have y0 : w4.frozen? ⟨w.heap.size, 0, none⟩ = false := (by simp [World.frozen?, e5]); have x1 : w4.cell? ⟨w.heap.size, 1, none⟩ = some (.slice none 0 0) := (by rw [cellq_any e5]; rfl); have y1 : w4.frozen? ⟨w.heap.size, 1, none⟩ = false := (by simp [World.frozen?, e5]); have x2 : w4.cell? ⟨w.heap.size, 2, none⟩ = some (.int .i64 0) := (by rw [cellq_any e5]; rfl); have y2 : w4.frozen? ⟨w.heap.size, 2, none⟩ = false := (by simp [World.frozen?, e5]); have x3 : w4.cell? ⟨w.heap.size, 3, none⟩ = some (.slice none 0 0) := (by rw [cellq_any e5]; rfl); have y3 : w4.frozen? ⟨w.heap.size, 3, none⟩ = false := (by simp [World.frozen?, e5]); have x4 : w4.cell? ⟨w.heap.size, 4, none⟩ = some (.slice none 0 0) := (by rw [cellq_any e5]; rfl); have y4 : w4.frozen? ⟨w.heap.size, 4, none⟩ = false := (by simp [World.frozen?, e5]); have hz5 : w.heap.size < w4.heap.size := lt_of_block e5; clear hw4 bx4 e5))
 have hb9 : Below w.heap.size w4 (((((w4.setCell ⟨w.heap.size, 0, none⟩ (.slice none 0 0)).setCell ⟨w.heap.size, 1, none⟩ (.slice none 0 0)).setCell ⟨w.heap.size, 2, none⟩ (.int .i64 0)).setCell ⟨w.heap.size, 3, none⟩ (.slice none 0 0)).setCell ⟨w.heap.size, 4, none⟩ (.slice none 0 0)) := ((((own_set _ _ _ (Nat.le_refl _)).trans (own_set _ _ _ (Nat.le_refl _))).trans (own_set _ _ _ (Nat.le_refl _))).trans (own_set _ _ _ (Nat.le_refl _))).trans (own_set _ _ _ (Nat.le_refl _))
 refine bodyPost_ret (v := .tuple #[.agg #[.slice none 0 0, .slice none 0 0, .int .i64 0, .slice none 0 0, .slice none 0 0], .int .i64 ee, .int .i64 ((N : Int) - 4 - (zs.length : Int) + ea)]) (by simp [results, Tryz.results9, go_sem, x0, x1, x2, x3, x4]) rfl ?_
 have s0 := (below_alloc w (.cells #[.slice none 0 0, .slice none 0 0, .int .i64 0, .slice none 0 0, .slice none 0 0] 26)).size
 have hs : w.heap.size < (w.alloc (.cells #[.slice none 0 0, .slice none 0 0, .int .i64 0, .slice none 0 0, .slice none 0 0] 26)).heap.size := lt_of_block (heap_alloc_new w _)
 have s1 := B1.out.size
 have s2 := B2.out.size
 have s3 := O3.out.size
 have s4 := B4.out.size
 have lr := L2.out
 exact ⟨rfl, (((((below_alloc w _).trans (B1.out.mono s0)).trans (B2.out.mono (Nat.le_trans s0 s1))).trans (O3.out.below (by omega) (by omega))).trans (B4.out.mono (by omega))).trans hb9⟩
theorem dec_chk (w : World) (ao : Option Addr) (N cap : Nat) (xs : List Int) (hN : N = xs.length) (hl : xs.length <= 140737488355328) (hcap : xs.length <= cap) (hr : C.RowAt w ao xs) (hm : C.Magic w) (zs : List Int) (oa : Int) (hF : C.openS 1 xs = (zs, 0, oa)) (gc : GC) (P : Nat) (E : Int) (hG : grS zs 0 0 = (gc, P, E)) (ea : Int) (hEnd : C.endS zs P E = (0, ea)) (ck at_ : Int) (hC : checkG (coreV gc) (checkF (coreV gc).ts (coreV gc).ns) = (ck, at_)) (h0 : ck ≠ 0) :
  Calls Tryz.prog 9 #[.slice ao N cap] w fun e w' => e = .returned (.tuple #[.agg #[.slice none 0 0, .slice none 0 0, .int .i64 0, .slice none 0 0, .slice none 0 0], .int .i64 ck, .int .i64 ((N : Int) - 4 - (zs.length : Int))]) /\ Below w.heap.size w w' := by
 have HMG : ∀ w0 : World, Below w.heap.size w w0 -> C.Magic w0 := fun w0 hb => C.Magic.later hm hb hm.lt
 have HRW : ∀ w0 : World, Below w.heap.size w w0 -> C.RowAt w0 ao xs := fun w0 hb => C.RowAt.later hr hb
 have HOP : Hid (∀ w0 : World, Below w.heap.size w w0 -> Calls Tryz.prog 36 #[.int .u8 1, .slice ao N cap] w0 fun e w' => ∃ a c, e = .returned (.tuple #[.slice a zs.length c, .int .i64 0, .int .i64 oa]) /\ C.RowAt w' a zs /\ (a = none -> c = 0) /\ Below w0.heap.size w0 w') := fun w0 hb => (C.open_any 1 ao N cap _ w0 hN (by omega) (by omega) hl hcap (HMG w0 hb) (HRW w0 hb)).mono fun e w' he => by
  obtain ⟨v, rfl, ho, _, hb'⟩ := he
  rw [hF] at ho ⊢
  obtain ⟨a, c, rfl, hn, hr2⟩ := C.Own.row ho
  exact ⟨a, c, rfl, hr2, fun h => (hn h).2, hb'⟩
 have hNl : N <= 140737488355328 := by omega
 have hzl : zs.length <= 16777216 := (C.frame_open 1 xs hr.1 zs oa hF).2.1
 have HZL : Hid (zs.length <= 16777216) := hzl
 have HGR : Hid (grS zs 0 0 = (gc, P, E)) := hG
 have HEND : Hid (C.endS zs P E = (0, ea)) := hEnd
 have hbz : C.isBytes zs := (C.frame_open 1 xs hr.1 zs oa hF).2.2.1
 have HAT : Hid (∀ (B : Nat) (w : World) (g : GV), g.core = gc -> DG B w g -> GAt 140737488355328 w g /\ g.ps.length <= g.pc) := fun B w g e d => d.at2 (n := zs.length) (by rw [e]; have := bdC_gr hbz 0 0 (Nat.zero_le _); rw [hG] at this; exact this) (by omega)
 have HCK : Hid (checkG (coreV gc) (checkF (coreV gc).ts (coreV gc).ns) = (ck, at_)) := hC
 have he : (ck != 0) = true := by simpa using h0
 have KEEP : Hid (∀ (w1 w2 w3 w4 w5 : World) (r : Nat), Below (w.alloc (.cells #[.slice none 0 0, .slice none 0 0, .int .i64 0, .slice none 0 0, .slice none 0 0] 26)).heap.size (w.alloc (.cells #[.slice none 0 0, .slice none 0 0, .int .i64 0, .slice none 0 0, .slice none 0 0] 26)) w1 -> Below w1.heap.size w1 w2 -> w1.heap.size <= r -> C.ROnly w2 w3 r -> Below w3.heap.size w3 w4 -> Below w4.heap.size w4 w5 -> w5.heap[w.heap.size]? = some (.cells #[.slice none 0 0, .slice none 0 0, .int .i64 0, .slice none 0 0, .slice none 0 0] 26 (0, 0))) := fun w1 w2 w3 w4 w5 r b1 b2 lr o3 b4 b5 => by
  have hs : w.heap.size < (w.alloc (.cells #[.slice none 0 0, .slice none 0 0, .int .i64 0, .slice none 0 0, .slice none 0 0] 26)).heap.size := lt_of_block (heap_alloc_new w _)
  have s1 := b1.size
  have s2 := b2.size
  have s3 := o3.size
  have s4 := b4.size
  rw [b5.block _ (by omega), b4.block _ (by omega), o3.block _ (by omega) (by omega), b2.block _ (by omega), b1.block _ hs]
  exact heap_alloc_new w _
 clear hN hl hcap hr hm HMG HRW hF h0 hG hEnd hC hbz
 go_enter Tryz.func9, Tryz.ntmps9
 go_wp2_with (first
  | (go_at_call 36; refine (HOP.out _ (by first | exact below_alloc _ _ | exact (two_alloc _ _ _).1 | exact Below.refl _ _)).mono ?_; rintro e w1 ⟨ba, bc, rfl, hr1', hc1', hb1'⟩; have R1 : Hid _ := hr1'; have C1 : Hid _ := hc1'; have B1 : Hid _ := hb1'; clear hr1' hc1' hb1')
  | (go_at_call 37; refine (newreader_own ba _ bc zs w1 rfl (Nat.le_trans HZL.out (by omega)) R1.out C1.out).mono ?_; rintro e w2 ⟨r, ro, rN, rc, rfl, hR', hr', hg', hb'⟩; have R2 : Hid _ := hR'; have L2 : Hid _ := hr'; have G2 : Hid _ := hg'; have B2 : Hid _ := hb'; clear hR' hr' hg' hb')
  | (go_at_call 38; refine (xgram R2.out (fun g0 eg => (G2.out g0 eg).2) HZL.out gc P E HGR.out).mono ?_; rintro e w3 ⟨g', rfl, sm', dg', hR', ho'⟩; have SM : Hid (g'.core = gc) := sm'; have D3 : Hid _ := dg'; have R3 : Hid _ := hR'; have O3 : Hid _ := ho'; clear sm' dg' hR' ho')
  | (go_at_call 39; refine (C.rend_eq (R3.out.later (below_alloc w3 _)) 0 ea HEND.out).mono ?_; rintro e w4 ⟨rfl, n4, hw4⟩; have bx4 : w4.heap[w3.heap.size]? = some (.cells #[.slice g'.ta g'.ts.length g'.tc, .slice g'.na g'.ns.length g'.nc, .int .i64 g'.start, .slice g'.pa g'.ps.length g'.pc, .slice g'.la g'.ls.length g'.lc] 26 (0, 0)) := (by rw [hw4]; exact heap_alloc_new w3 _); have B4 : Hid (Below w3.heap.size w3 w4) := (by rw [hw4]; exact below_drewN (below_alloc w3 _) n4); have X4 : Hid _ := bx4; have c0 : w4.cell? ⟨w3.heap.size, 0, none⟩ = some (.slice g'.ta g'.ts.length g'.tc) := (by rw [cellq_any bx4]; rfl); have c1 : w4.cell? ⟨w3.heap.size, 1, none⟩ = some (.slice g'.na g'.ns.length g'.nc) := (by rw [cellq_any bx4]; rfl); have c2 : w4.cell? ⟨w3.heap.size, 2, none⟩ = some (.int .i64 g'.start) := (by rw [cellq_any bx4]; rfl); have c3 : w4.cell? ⟨w3.heap.size, 3, none⟩ = some (.slice g'.pa g'.ps.length g'.pc) := (by rw [cellq_any bx4]; rfl); have c4 : w4.cell? ⟨w3.heap.size, 4, none⟩ = some (.slice g'.la g'.ls.length g'.lc) := (by rw [cellq_any bx4]; rfl); clear hw4 bx4)
  | (go_at_call 17; refine (check_G g' w4 ((HAT.out _ _ _ SM.out D3.out).1.later B4.out) (HAT.out _ _ _ SM.out D3.out).2 ck at_ ((same_check (same_coreV SM.out)).trans HCK.out)).mono ?_; rintro e w5 ⟨rfl, hb5'⟩; have B5 : Hid _ := hb5'; have bx5 := (hb5'.block _ (lt_of_block X4.out)).trans X4.out; clear c0 c1 c2 c3 c4; have c0 : w5.cell? ⟨w3.heap.size, 0, none⟩ = some (.slice g'.ta g'.ts.length g'.tc) := (by rw [cellq_any bx5]; rfl); have c1 : w5.cell? ⟨w3.heap.size, 1, none⟩ = some (.slice g'.na g'.ns.length g'.nc) := (by rw [cellq_any bx5]; rfl); have c2 : w5.cell? ⟨w3.heap.size, 2, none⟩ = some (.int .i64 g'.start) := (by rw [cellq_any bx5]; rfl); have c3 : w5.cell? ⟨w3.heap.size, 3, none⟩ = some (.slice g'.pa g'.ps.length g'.pc) := (by rw [cellq_any bx5]; rfl); have c4 : w5.cell? ⟨w3.heap.size, 4, none⟩ = some (.slice g'.la g'.ls.length g'.lc) := (by rw [cellq_any bx5]; rfl); have e5 : w5.heap[w.heap.size]? = some (.cells #[.slice none 0 0, .slice none 0 0, .int .i64 0, .slice none 0 0, .slice none 0 0] 26 (0, 0)) := KEEP.out w1 w2 w3 w4 w5 r B1.out B2.out L2.out O3.out B4.out B5.out; have x0 : w5.cell? ⟨w.heap.size, 0, none⟩ = some (.slice none 0 0) := (by rw [cellq_any e5]; rfl); have y0 : w5.frozen? ⟨w.heap.size, 0, none⟩ = false := (by simp [World.frozen?, e5]); have x1 : w5.cell? ⟨w.heap.size, 1, none⟩ = some (.slice none 0 0) := (by rw [cellq_any e5]; rfl); have y1 : w5.frozen? ⟨w.heap.size, 1, none⟩ = false := (by simp [World.frozen?, e5]); have x2 : w5.cell? ⟨w.heap.size, 2, none⟩ = some (.int .i64 0) := (by rw [cellq_any e5]; rfl); have y2 : w5.frozen? ⟨w.heap.size, 2, none⟩ = false := (by simp [World.frozen?, e5]); have x3 : w5.cell? ⟨w.heap.size, 3, none⟩ = some (.slice none 0 0) := (by rw [cellq_any e5]; rfl); have y3 : w5.frozen? ⟨w.heap.size, 3, none⟩ = false := (by simp [World.frozen?, e5]); have x4 : w5.cell? ⟨w.heap.size, 4, none⟩ = some (.slice none 0 0) := (by rw [cellq_any e5]; rfl); have y4 : w5.frozen? ⟨w.heap.size, 4, none⟩ = false := (by simp [World.frozen?, e5]); have hz5 : w.heap.size < w5.heap.size := lt_of_block e5; have hz6 : w3.heap.size < w5.heap.size := lt_of_block bx5; clear bx5 e5 hb5'))
 have hb9 : Below w.heap.size w5 (((((w5.setCell ⟨w.heap.size, 0, none⟩ (.slice none 0 0)).setCell ⟨w.heap.size, 1, none⟩ (.slice none 0 0)).setCell ⟨w.heap.size, 2, none⟩ (.int .i64 0)).setCell ⟨w.heap.size, 3, none⟩ (.slice none 0 0)).setCell ⟨w.heap.size, 4, none⟩ (.slice none 0 0)) := ((((own_set _ _ _ (Nat.le_refl _)).trans (own_set _ _ _ (Nat.le_refl _))).trans (own_set _ _ _ (Nat.le_refl _))).trans (own_set _ _ _ (Nat.le_refl _))).trans (own_set _ _ _ (Nat.le_refl _))
 refine bodyPost_ret (v := .tuple #[.agg #[.slice none 0 0, .slice none 0 0, .int .i64 0, .slice none 0 0, .slice none 0 0], .int .i64 ck, .int .i64 ((N : Int) - 4 - (zs.length : Int))]) (by simp [results, Tryz.results9, go_sem, x0, x1, x2, x3, x4]) rfl ?_
 have s0 := (below_alloc w (.cells #[.slice none 0 0, .slice none 0 0, .int .i64 0, .slice none 0 0, .slice none 0 0] 26)).size
 have hs : w.heap.size < (w.alloc (.cells #[.slice none 0 0, .slice none 0 0, .int .i64 0, .slice none 0 0, .slice none 0 0] 26)).heap.size := lt_of_block (heap_alloc_new w _)
 have s1 := B1.out.size
 have s2 := B2.out.size
 have s3 := O3.out.size
 have s4 := B4.out.size
 have lr := L2.out
 exact ⟨rfl, ((((((below_alloc w _).trans (B1.out.mono s0)).trans (B2.out.mono (Nat.le_trans s0 s1))).trans (O3.out.below (by omega) (by omega))).trans (B4.out.mono (by omega))).trans (B5.out.mono (by omega))).trans hb9⟩
theorem endS_bd {zs : List Int} {P : Nat} {E ee ea : Int} (hP : P <= zs.length) (h : C.endS zs P E = (ee, ea)) : 0 <= ea /\ ea <= zs.length /\ (ee = 0 -> E = 0 /\ P = zs.length /\ ea = 0) := by
 unfold C.endS at h
 by_cases h1 : E ≠ 0
 ·rw [if_pos h1] at h
  simp only [Prod.mk.injEq] at h
  obtain ⟨rfl, rfl⟩ := h
  exact ⟨by omega, by omega, fun e => absurd e h1⟩
 rw [if_neg h1] at h
 by_cases h2 : P < zs.length
 ·rw [if_pos h2] at h
  simp only [Prod.mk.injEq] at h
  obtain ⟨rfl, rfl⟩ := h
  exact ⟨by omega, by omega, fun e => by simp at e⟩
 rw [if_neg h2] at h
 simp only [Prod.mk.injEq] at h
 obtain ⟨rfl, rfl⟩ := h
 exact ⟨by omega, by omega, fun _ => ⟨by simpa using h1, by omega, rfl⟩⟩
theorem dec_any (w : World) (ao : Option Addr) (N cap : Nat) (xs : List Int) (hN : N = xs.length) (hl : xs.length <= 140737488355328) (hcap : xs.length <= cap) (hr : C.RowAt w ao xs) (hm : C.Magic w) :
  Calls Tryz.prog 9 #[.slice ao N cap] w fun e w' => ∃ y : GV, e = .returned (.tuple #[y.val, .int .i64 (decE xs).1, .int .i64 (decE xs).2]) /\ Below w.heap.size w w' /\ ((decE xs).1 ≠ 0 -> y = gVoid) /\ ((decE xs).1 = 0 -> y.core = (decG xs).1 /\ DG w.heap.size w' y) := by
 obtain ⟨zs, oe, oa, hF⟩ : ∃ zs oe oa, C.openS 1 xs = (zs, oe, oa) := ⟨_, _, _, rfl⟩
 by_cases h0 : oe = 0
 ·subst h0
  obtain ⟨_, hzl, hbz, _⟩ := C.frame_open 1 xs hr.1 zs oa hF
  obtain ⟨gc, P, E, hG⟩ : ∃ gc P E, grS zs 0 0 = (gc, P, E) := ⟨_, _, _, rfl⟩
  obtain ⟨ee, ea, hEn⟩ : ∃ ee ea, C.endS zs P E = (ee, ea) := ⟨_, _, rfl⟩
  have hP : P <= zs.length := by have := ((rd_gr hbz).mono 0 0 (Nat.zero_le _)).2; rw [hG] at this; exact this
  obtain ⟨b1, b2, _⟩ := endS_bd hP hEn
  have dG : decG xs = (gc, P, E) := by rw [decG, hF]; exact hG
  have dN : decN xs = (ee, ea) := by rw [decN, hF, dG]; exact hEn
  have dB : decB xs = (N : Int) - 4 - (zs.length : Int) := by rw [decB, hF, hN]
  by_cases h1 : ee = 0
  ·subst h1
   obtain ⟨ck, at_, hC⟩ : ∃ ck at_, checkG (coreV gc) (checkF (coreV gc).ts (coreV gc).ns) = (ck, at_) := ⟨_, _, rfl⟩
   have dC : ckC gc = ck := by rw [ckC, hC]
   by_cases h2 : ck = 0
   ·subst h2
    have dE : decE xs = (0, 0) := by rw [decE, hF, dN, dG, dC]; simp
    rw [dE, dG]
    refine (dec_fin w ao N cap xs hN hl hcap hr hm zs oa hF gc P E hG ea hEn at_ hC).mono ?_
    rintro e w' ⟨y, rfl, hc, hd, hb⟩
    exact ⟨y, rfl, hb, fun h => absurd rfl h, fun _ => ⟨hc, hd⟩⟩
   ·have dE : decE xs = (ck, (N : Int) - 4 - (zs.length : Int)) := by rw [decE, hF, dN, dG, dC, dB]; simp [h2]
    rw [dE]
    refine (dec_chk w ao N cap xs hN hl hcap hr hm zs oa hF gc P E hG ea hEn ck at_ hC h2).mono ?_
    rintro e w' ⟨rfl, hb⟩
    exact ⟨gVoid, rfl, hb, fun _ => rfl, fun h => absurd h h2⟩
  ·have dE : decE xs = (ee, (N : Int) - 4 - (zs.length : Int) + ea) := by rw [decE, hF, dN, dB]; simp [h1]
   rw [dE]
   refine (dec_end w ao N cap xs hN hl hcap hr hm zs oa hF gc P E hG ee ea hEn h1 ⟨b1, by omega⟩).mono ?_
   rintro e w' ⟨rfl, hb⟩
   exact ⟨gVoid, rfl, hb, fun _ => rfl, fun h => absurd h h1⟩
 ·have dE : decE xs = (oe, oa) := by rw [decE, hF]; simp [h0]
  rw [dE]
  refine (dec_open w ao N cap xs hN hl hcap hr hm zs oe oa hF h0).mono ?_
  rintro e w' ⟨rfl, hb⟩
  exact ⟨gVoid, rfl, hb, fun _ => rfl, fun h => absurd h h0⟩
theorem dec_good (xs : List Int) (hb : C.isBytes xs) (h : (decE xs).1 = 0) (y : GV) (hy : y.core = (decG xs).1) : (decE xs).2 = 0 /\ C.frame 1 (encG y) = xs /\ ∃ at_, checkG y (checkF y.ts y.ns) = (0, at_) := by
 obtain ⟨zs, oe, oa, hF⟩ : ∃ zs oe oa, C.openS 1 xs = (zs, oe, oa) := ⟨_, _, _, rfl⟩
 by_cases h0 : oe = 0
 ·subst h0
  obtain ⟨hfr, hzl, hbz, _⟩ := C.frame_open 1 xs hb zs oa hF
  obtain ⟨gc, P, E, hG⟩ : ∃ gc P E, grS zs 0 0 = (gc, P, E) := ⟨_, _, _, rfl⟩
  obtain ⟨ee, ea, hEn⟩ : ∃ ee ea, C.endS zs P E = (ee, ea) := ⟨_, _, rfl⟩
  have hP : P <= zs.length := by have := ((rd_gr hbz).mono 0 0 (Nat.zero_le _)).2; rw [hG] at this; exact this
  obtain ⟨b1, b2, b3⟩ := endS_bd hP hEn
  have dG : decG xs = (gc, P, E) := by rw [decG, hF]; exact hG
  have dN : decN xs = (ee, ea) := by rw [decN, hF, dG]; exact hEn
  by_cases h1 : ee = 0
  ·subst h1
   obtain ⟨rfl, rfl, rfl⟩ := b3 rfl
   by_cases h2 : ckC gc = 0
   ·have dE : decE xs = (0, 0) := by rw [decE, hF, dN, dG, h2]; simp
    rw [dG] at hy
    have hk := (rd_gr hbz).ok 0 (Nat.zero_le _) (by rw [hG])
    rw [hG] at hk
    have hz : zs = encG y := by
     rw [<- encG_core, hy]
     simpa using hk
    refine ⟨by rw [dE], by rw [<- hz]; exact hfr, ?_⟩
    have hs := same_check (same_coreV hy)
    obtain ⟨ck, at_, hC⟩ : ∃ ck at_, checkG (coreV gc) (checkF (coreV gc).ts (coreV gc).ns) = (ck, at_) := ⟨_, _, rfl⟩
    rw [ckC, hC] at h2
    simp only at h2
    subst h2
    exact ⟨at_, hs.trans hC⟩
   ·have dE : (decE xs).1 = ckC gc := by rw [decE, hF, dN, dG]; simp [h2]
    rw [dE] at h; exact absurd h h2
  ·have dE : (decE xs).1 = ee := by rw [decE, hF, dN]; simp [h1]
   rw [dE] at h; exact absurd h h1
 ·have dE : decE xs = (oe, oa) := by rw [decE, hF]; simp [h0]
  rw [dE] at h; exact absurd h h0
end Go.Proofs.YthgnhdnmcjpdmaaGreatDoor
