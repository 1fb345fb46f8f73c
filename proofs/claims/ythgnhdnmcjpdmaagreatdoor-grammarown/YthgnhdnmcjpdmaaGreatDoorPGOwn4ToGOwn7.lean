import Derived.Test.YthgnhdnmcjpdmaaGreatDoorPGOwn1ToGOwn3
import Derived.Test.YthgnhdnmcjpdmaaGreatDoorPGT14ToGT18
import Derived.Test.YthgnhdnmcjpdmaaGreatDoorPGE8ToGE10
import Derived.Test.YthgnhdnmcjpdmaaGreatDoorPGBGToGB1
import Derived.Test.YthgnhdnmcjpdmaaGreatDoorPGU1ToGU4
import Derived.Test.YthgnhdnmcjpdmaaGreatDoorPGSmallToGAlive2
import Derived.Test.YthgnhdnmcjpdmaaGreatDoorPGUses3
namespace Go.Proofs.YthgnhdnmcjpdmaaGreatDoor
set_option linter.unusedVariables false
set_option maxRecDepth 100000
set_option maxHeartbeats 16000000
open Go.RowKit Go.Maps
theorem rev_own (x : GV) (w : World) (h : GAt 140737488355328 w x) (hpc : x.ps.length <= x.pc) :
  Calls Tryz.prog 6 #[x.val] w fun e w' => ∃ (y : GV) (er : Int), e = .returned (.tuple #[y.val, .int .i64 er]) /\ OG w.heap.size w'.heap.size w' y /\ Below w.heap.size w w' := by
 obtain ⟨er, at_, hE⟩ : ∃ er at_, checkG x (checkF x.ts x.ns) = (er, at_) := ⟨_, _, rfl⟩
 by_cases h0 : er = 0
 ·subst h0
  refine (reverse_ok x w h hpc at_ hE).mono ?_
  rintro e w' ⟨y, A, H, E, pb, lb, tb, nb, rfl, sy, my, hb⟩
  exact ⟨y, 0, rfl, my.og (OkC.of (by rw [same_check sy, check_rev]; show (checkG x (checkF x.ts x.ns)).1 = 0; rw [hE])), hb⟩
 ·refine (reverse_no x w h hpc er at_ hE h0).mono ?_
  rintro e w' ⟨rfl, hb⟩
  exact ⟨gVoid, er, rfl, OG.void _ _ _, hb⟩
theorem ren_own (x : GV) (a1 a2 : Option Addr) (c1 c2 : Nat) (ts ns : List Int) (w : World) (h : GAt 140737488355328 w x) (hpc : x.ps.length <= x.pc) (h1 : InRow w a1 ts) (h2 : InRow w a2 ns) (hl : ts.length <= 140737488355328 /\ ns.length <= 140737488355328) :
  Calls Tryz.prog 7 #[x.val, .slice a1 ts.length c1, .slice a2 ns.length c2] w fun e w' => ∃ (y : GV) (er : Int), e = .returned (.tuple #[y.val, .int .i64 er]) /\ OG w.heap.size w'.heap.size w' y /\ Below w.heap.size w w' := by
 obtain ⟨er, at_, hE⟩ : ∃ er at_, checkG x (checkF x.ts x.ns) = (er, at_) := ⟨_, _, rfl⟩
 by_cases h0 : er = 0
 ·subst h0
  obtain ⟨eu, hu⟩ : ∃ eu, renU x ts ns = eu := ⟨_, rfl⟩
  by_cases h3 : eu = 0
  ·subst h3
   refine (renumber_ok x a1 a2 c1 c2 ts ns w h hpc at_ hE h1 h2 hl hu).mono ?_
   rintro e w' ⟨y, A, H, E, pb, lb, tb, nb, rfl, sy, my, hb⟩
   exact ⟨y, 0, rfl, my.og (OkC.of (by rw [same_check sy, check_ren (OkC.of (by rw [hE])) (checkF_ok hE) (renU_ok hu)])), hb⟩
  ·refine (renumber_err x a1 a2 c1 c2 ts ns w h hpc at_ hE h1 h2 hl eu hu h3).mono ?_
   rintro e w' ⟨rfl, hb⟩
   exact ⟨gVoid, eu, rfl, OG.void _ _ _, hb⟩
 ·refine (renumber_no x a1 a2 ts.length ns.length c1 c2 w h hpc er at_ hE h0).mono ?_
  rintro e w' ⟨rfl, hb⟩
  exact ⟨gVoid, er, rfl, OG.void _ _ _, hb⟩
theorem enc_own (x : GV) (w : World) (h : GAt 140737488355328 w x) (hpc : x.ps.length <= x.pc) (hm : C.Magic w) :
  Calls Tryz.prog 8 #[x.val] w fun e w' => ∃ (a : Option Addr) (N c : Nat) (er : Int) (xs : List Int), e = .returned (.tuple #[.slice a N c, .int .i64 er]) /\ (C.RowAt w' a xs /\ N = xs.length /\ xs.length <= c /\ N <= 100000000) /\ Put w' w.heap.size w'.heap.size 5 1 a N c (C.vals xs) /\ Below w.heap.size w w' := by
 obtain ⟨er, at_, hE⟩ : ∃ er at_, checkG x (checkF x.ts x.ns) = (er, at_) := ⟨_, _, rfl⟩
 by_cases h0 : er = 0
 ·subst h0
  have ok : OkC x := OkC.of (by rw [hE])
  refine (encode_ok x w (h.ok ok) hpc at_ hE ok.okg hm).mono ?_
  rintro e w' ⟨gg, N, c, rfl, ho, hlo, hb⟩
  obtain ⟨a, c', e1, _, hr⟩ := C.Own.row ho
  have hc := C.own_cap ho
  cases e1
  have l1 := gframe_len 1 (encG x)
  have l2 := ok.enc_len
  exact ⟨_, _, _, 0, C.frame 1 (encG x), rfl, ⟨hr, rfl, by omega, by omega⟩, Put.of_own ho.2 (fun j hj => by simp [Value.ownBlock] at hj; omega), hb⟩
 ·refine (encode_no x w h hpc er at_ hE h0).mono ?_
  rintro e w' ⟨rfl, hb⟩
  exact ⟨none, 0, 0, er, [], rfl, ⟨⟨(by intro z hz; cases hz), fun h => absurd rfl h⟩, rfl, Nat.le_refl _, Nat.zero_le _⟩, Put.nil, hb⟩
theorem dec_own (a : Option Addr) (N c : Nat) (xs : List Int) (w : World) (h : C.RowAt w a xs /\ N = xs.length /\ xs.length <= c /\ N <= 100000000) (hm : C.Magic w) :
  Calls Tryz.prog 9 #[.slice a N c] w fun e w' => ∃ (y : GV) (er at_ : Int), e = .returned (.tuple #[y.val, .int .i64 er, .int .i64 at_]) /\ OG w.heap.size w'.heap.size w' y /\ Below w.heap.size w w' := by
 refine (dec_any w a N c xs h.2.1 (by have := h.2; omega) h.2.2.1 h.1 hm).mono ?_
 rintro e w' ⟨y, rfl, hb, h1, h2⟩
 refine ⟨y, _, _, rfl, ?_, hb⟩
 by_cases h0 : (decE xs).1 = 0
 ·obtain ⟨hy, hd⟩ := h2 h0
  obtain ⟨_, _, at_, hC⟩ := dec_good xs h.1.1 h0 y hy
  exact hd.og (OkC.of (by rw [hC]))
 ·rw [h1 h0]; exact OG.void _ _ _
def XK (B : Nat) (w : World) (x : GV) : Prop := GAt 1048576 w x /\ ∀ w', Below B w w' -> KQ kG w w' -> GAt 1048576 w' x
theorem XK.next {B : Nat} {w w' : World} {x : GV} (h : XK B w x) (hb : Below B w w') (hq : KQ kG w w') : XK B w' x := ⟨h.2 w' hb hq, fun w2 b2 q2 => h.2 w2 (hb.trans b2) (hq.trans q2)⟩
theorem XK.later {B : Nat} {w w' : World} {x : GV} (h : XK B w x) (hB : B <= w.heap.size) (hb : Below w.heap.size w w') : XK B w' x := h.next (hb.mono hB) (KQ.of hb)
theorem XK.given {B : Nat} {W w : World} {x : GV} (h : GAt 1048576 W x) (hB : W.heap.size <= B) (hb : Below W.heap.size W w) : XK B w x := ⟨h.later hb, fun _ b2 _ => h.later (hb.trans (b2.mono hB))⟩
def gSm (b1 b2 b3 b4 : Nat) : GV := ⟨some ⟨b1, 0, none⟩, 1, [⟨#[120]⟩], some ⟨b2, 0, none⟩, 1, [⟨#[83]⟩], 0, some ⟨b3, 0, none⟩, 1, [⟨0, some ⟨b4, 0, none⟩, 1, [(1, 0)], -1⟩], none, 0, []⟩
structure SmW (w : World) (b1 b2 b3 b4 : Nat) : Prop where
 h1 : w.heap[b1]? = some (.cells #[.string ⟨#[120]⟩] 9 (0, 0))
 h2 : w.heap[b2]? = some (.cells #[.string ⟨#[83]⟩] 9 (0, 0))
 h3 : w.heap[b3]? = some (.cells #[.int .i64 0, .slice (some ⟨b4, 0, none⟩) 1 1, .int .i64 (-1)] 75 (0, 0))
 h4 : w.heap[b4]? = some (.cells #[.int .i64 1, .int .i64 0] 30 (0, 0))
theorem SmW.keep {w w' : World} {b1 b2 b3 b4 : Nat} (h : SmW w b1 b2 b3 b4) (hq : KQ kG w w') : SmW w' b1 b2 b3 b4 :=
 ⟨(hq.2 b1 _ _ h.h1 (kG_pl 2).1 (kG_pl 2).2).trans h.h1, (hq.2 b2 _ _ h.h2 (kG_pl 2).1 (kG_pl 2).2).trans h.h2, (hq.2 b3 _ _ h.h3 (kG_pl 10).1 (kG_pl 10).2).trans h.h3, (hq.2 b4 _ _ h.h4 (kG_pl 4).1 (kG_pl 4).2).trans h.h4⟩
theorem SmW.at {w : World} {b1 b2 b3 b4 : Nat} (h : SmW w b1 b2 b3 b4) : GAt 1048576 w (gSm b1 b2 b3 b4) := by
 refine ⟨?_, ?_, ⟨?_, ?_⟩, ⟨?_, ?_⟩, ?_, ?_, ?_, ?_, ?_, ?_, ?_, ?_⟩
 ·intro _
  refine ⟨b1, 0, rfl, lt_of_block h.h1, fun i hi => ?_⟩
  obtain rfl : i = 0 := by simpa [gSm] using hi
  exact (cellq_any h.h1).trans rfl
 ·intro _
  refine ⟨b2, 0, rfl, lt_of_block h.h2, fun i hi => ?_⟩
  obtain rfl : i = 0 := by simpa [gSm] using hi
  exact (cellq_any h.h2).trans rfl
 ·intro _
  refine ⟨b3, 0, rfl, lt_of_block h.h3, fun i hi => ?_⟩
  obtain rfl : i = 0 := by simpa [gSm] using hi
  exact ⟨(cellq_any h.h3).trans rfl, (cellq_any h.h3).trans rfl, (cellq_any h.h3).trans rfl⟩
 ·intro p hp _
  obtain rfl := List.mem_singleton.1 hp
  refine ⟨b4, 0, rfl, lt_of_block h.h4, fun i hi => ?_⟩
  obtain rfl : i = 0 := by simpa using hi
  exact ⟨(cellq_any h.h4).trans rfl, (cellq_any h.h4).trans rfl⟩
 ·intro h; exact absurd rfl h
 ·intro p hp; cases hp
 ·intro s hs; obtain rfl := List.mem_singleton.1 hs; decide
 ·intro s hs; obtain rfl := List.mem_singleton.1 hs; decide
 ·show 1 <= 1048576; omega
 ·show 1 <= 1048576; omega
 ·show 1 <= 1048576; omega
 ·show 0 <= 1048576; omega
 ·intro s hs; obtain rfl := List.mem_singleton.1 hs; show 1 <= 1048576; omega
 ·intro p hp; cases hp
theorem SmW.xk {B : Nat} {w : World} {b1 b2 b3 b4 : Nat} (h : SmW w b1 b2 b3 b4) : XK B w (gSm b1 b2 b3 b4) := ⟨h.at, fun _ _ q => (h.keep q).at⟩
theorem al_ne {w : World} {o : Obj} {j : Nat} (h : j < w.heap.size) : (w.alloc o).heap[j]? = w.heap[j]? := (below_alloc w o).block j h
theorem al_eq {w : World} {o : Obj} {j : Nat} (h : j = w.heap.size) : (w.alloc o).heap[j]? = some o := by subst h; exact heap_alloc_new w o
theorem small_own (w : World) :
  Calls Tryz.prog 5 #[] w fun e w' => ∃ b1 b2 b3 b4, e = .returned (gSm b1 b2 b3 b4).val /\ SmW w' b1 b2 b3 b4 /\ Below w.heap.size w w' := by
 go_enter Tryz.func5, Tryz.ntmps5
 go_wp2
 refine bodyPost_ret (v := .agg #[.slice (some ⟨w.heap.size + 1, 0, none⟩) 1 1, .slice (some ⟨w.heap.size + 1 + 1, 0, none⟩) 1 1, .int .i64 0, .slice (some ⟨w.heap.size + 1 + 1 + 1 + 1 + 1, 0, none⟩) 1 1, .slice none 0 0]) (by simp [results, Tryz.results5, go_sem]) rfl ?_
 refine ⟨w.heap.size + 1, w.heap.size + 1 + 1, w.heap.size + 1 + 1 + 1 + 1 + 1, w.heap.size + 1 + 1 + 1 + 1, rfl, ⟨?_, ?_, ?_, ?_⟩, (two_below w _ _).trans (((two_below _ _ _).mono (two_below w _ _).size).trans ((two_below _ _ _).mono (Nat.le_trans (two_below w _ _).size (two_below _ _ _).size)))⟩
 ·rw [al_ne (by first | (simp; done) | (simp; omega)), al_ne (by first | (simp; done) | (simp; omega)), al_ne (by first | (simp; done) | (simp; omega)), al_ne (by first | (simp; done) | (simp; omega)), al_eq (by first | (simp; done) | (simp; omega))]
 ·rw [al_ne (by first | (simp; done) | (simp; omega)), al_ne (by first | (simp; done) | (simp; omega)), al_ne (by first | (simp; done) | (simp; omega)), al_eq (by first | (simp; done) | (simp; omega))]
 ·rw [al_eq (by first | (simp; done) | (simp; omega))]
 ·rw [al_ne (by first | (simp; done) | (simp; omega)), al_eq (by first | (simp; done) | (simp; omega))]
end Go.Proofs.YthgnhdnmcjpdmaaGreatDoor
namespace Go.Proofs.YthgnhdnmcjpdmaaGreatDoor
set_option linter.unusedVariables false
set_option maxRecDepth 100000
set_option maxHeartbeats 16000000
open Go.RowKit Go.Maps
structure RD (B q bx : Nat) (x : GV) (w1 : World) (V : Nat -> Value) (E : Nat -> List LE) (m c : Nat) (w : World) : Prop where
 ks : KS B w q V E m c
 bx : w.heap[bx]? = some (bxG x)
 xk : XK B w x
 hb : Below B w1 w
 mz : m <= w.heap.size
 bm : B <= m
structure PN (ba : Nat) (y : GV) (lo hi : Nat) (w : World) : Prop where
 bx : w.heap[ba]? = some (bxG y)
 og : OG lo hi w y
 lh : lo <= hi
 hz : hi <= w.heap.size
structure LP (t : TypeId) (sz : Nat) (a : Option Addr) (n c : Nat) (X : List Value) (lo hi : Nat) (w : World) : Prop where
 put : Put w lo hi t sz a n c X
 lh : lo <= hi
 hz : hi <= w.heap.size
 nn : n <= 100000000
section
variable {B q bx : Nat} {x : GV} {w1 : World} {V : Nat -> Value} {E : Nat -> List LE} {m c : Nat} {w w' : World}
theorem RD.later (h : RD B q bx x w1 V E m c w) (hb : Below w.heap.size w w') : RD B q bx x w1 V E m c w' :=
 ⟨h.ks.later hb, (hb.block _ (lt_of_block h.bx)).trans h.bx, h.xk.later h.ks.ki.size hb, h.hb.trans (hb.mono h.ks.ki.size), Nat.le_trans h.mz hb.size, h.bm⟩
theorem RD.book {V' : Nat -> Value} {E' : Nat -> List LE} {m' c' : Nat} (h : RD B q bx x w1 V E m c w) (hk : KS B w' q V' E' m' c') (hb : Below B w w') (hq : KQ kG w w') (hm : m' <= w.heap.size) (hm' : m <= m') : RD B q bx x w1 V' E' m' c' w' :=
 ⟨hk, box_keep h.bx hq, h.xk.next hb hq, h.hb.trans hb, Nat.le_trans hm hq.1, Nat.le_trans h.bm hm'⟩
theorem PN.keep {ba : Nat} {y : GV} {lo hi : Nat} (h : PN ba y lo hi w) (hq : KQ kG w w') : PN ba y lo hi w' := ⟨box_keep h.bx hq, h.og.keep hq, h.lh, Nat.le_trans h.hz hq.1⟩
theorem PN.later {ba : Nat} {y : GV} {lo hi : Nat} (h : PN ba y lo hi w) (hb : Below w.heap.size w w') : PN ba y lo hi w' := h.keep (KQ.of hb)
theorem PN.new {y : GV} {lo : Nat} (h : OG lo w.heap.size w y) (hl : lo <= w.heap.size) : PN w.heap.size y lo w.heap.size (w.alloc (bxG y)) := ⟨heap_alloc_new _ _, h.later (below_alloc _ _), hl, (below_alloc w _).size⟩
theorem LP.keep {t : TypeId} {sz : Nat} {a : Option Addr} {n c : Nat} {X : List Value} {lo hi : Nat} (h : LP t sz a n c X lo hi w) (i : Nat) (ht : kG.te i = t) (hq : KQ kG w w') : LP t sz a n c X lo hi w' := ⟨h.put.keep hq i ht, h.lh, Nat.le_trans h.hz hq.1, h.nn⟩
theorem RD.gram {ba : Nat} {y : GV} {lo hi : Nat} (h : RD B q bx x w1 V E m c w) (p : PN ba y lo hi w) (hl : m <= lo) (hc : c < 800) :
  Calls Tryz.prog 10 #[.pointer (some ⟨q, 0, none⟩), y.val] w fun e w' => e = .returned (.tuple #[]) /\ ∃ V' E', RD B q bx x w1 V' E' hi (c + 6) w' /\ KQ kG w w' := by
 refine (book_Grammar B q V E w m hi c h.ks h.bm (Nat.le_trans hl p.lh) y (p.og.mono hl (Nat.le_refl _)) (by omega)).mono ?_
 rintro e w' ⟨rfl, V', E', k, b, r⟩
 exact ⟨rfl, V', E', h.book k b r p.hz (Nat.le_trans hl p.lh), r⟩
theorem RD.bytes {a : Option Addr} {n c' : Nat} {X : List Value} {lo hi : Nat} (h : RD B q bx x w1 V E m c w) (p : LP 5 1 a n c' X lo hi w) (hl : m <= lo) (hc : c < 800) :
  Calls Tryz.prog 11 #[.pointer (some ⟨q, 0, none⟩), .slice a n c'] w fun e w' => e = .returned (.tuple #[]) /\ ∃ V' E', RD B q bx x w1 V' E' hi (c + 1) w' /\ KQ kG w w' := by
 have hp := p.put.mono hl (Nat.le_refl hi)
 refine (book_bytes kG kG_ok B q V E w a n c' X h.ks.ki ⟨rfl, rfl, rfl⟩ (fun h0 => (hp h0).1) (hp.lo h.bm _ (hp.new (h.ks.lt 0))) (h.ks.nines 0)).mono ?_
 rintro e w' ⟨rfl, V', E', k, i, d, b, r⟩
 exact ⟨rfl, V', E', h.book (h.ks.one (i := 0) k i d (by decide) p.nn (fun h => (hp h).2.2.2) (Nat.le_trans hl p.lh) (by omega)) b r p.hz (Nat.le_trans hl p.lh), r⟩
theorem RD.ints {a : Option Addr} {n c' : Nat} {X : List Value} {lo hi : Nat} (h : RD B q bx x w1 V E m c w) (p : LP 3 1 a n c' X lo hi w) (hl : m <= lo) (hc : c < 800) :
  Calls Tryz.prog 12 #[.pointer (some ⟨q, 0, none⟩), .slice a n c'] w fun e w' => e = .returned (.tuple #[]) /\ ∃ V' E', RD B q bx x w1 V' E' hi (c + 1) w' /\ KQ kG w w' := by
 have hp := p.put.mono hl (Nat.le_refl hi)
 refine (book_ints kG kG_ok B q V E w a n c' X h.ks.ki ⟨rfl, rfl, rfl⟩ (fun h0 => (hp h0).1) (hp.lo h.bm _ (hp.new (h.ks.lt 1))) (h.ks.nines 1)).mono ?_
 rintro e w' ⟨rfl, V', E', k, i, d, b, r⟩
 exact ⟨rfl, V', E', h.book (h.ks.one (i := 1) k i d (by decide) p.nn (fun h => (hp h).2.2.2) (Nat.le_trans hl p.lh) (by omega)) b r p.hz (Nat.le_trans hl p.lh), r⟩
theorem RD.cores {a : Option Addr} {n c' : Nat} {X : List Value} {lo hi : Nat} (h : RD B q bx x w1 V E m c w) (p : LP 107 2 a n c' X lo hi w) (hl : m <= lo) (hc : c < 800) :
  Calls Tryz.prog 14 #[.pointer (some ⟨q, 0, none⟩), .slice a n c'] w fun e w' => e = .returned (.tuple #[]) /\ ∃ V' E', RD B q bx x w1 V' E' hi (c + 1) w' /\ KQ kG w w' := by
 have hp := p.put.mono hl (Nat.le_refl hi)
 refine (book_cores kG kG_ok B q V E w a n c' X h.ks.ki ⟨rfl, rfl, rfl⟩ (fun h0 => (hp h0).1) (hp.lo h.bm _ (hp.new (h.ks.lt 5))) (h.ks.nines 5)).mono ?_
 rintro e w' ⟨rfl, V', E', k, i, d, b, r⟩
 exact ⟨rfl, V', E', h.book (h.ks.one (i := 5) k i d (by decide) p.nn (fun h => (hp h).2.2.2) (Nat.le_trans hl p.lh) (by omega)) b r p.hz (Nat.le_trans hl p.lh), r⟩
theorem RD.rev (h : RD B q bx x w1 V E m c w) (hpc : x.ps.length <= x.pc) :
  Calls Tryz.prog 6 #[x.val] w fun e w' => ∃ (y : GV) (er : Int), e = .returned (.tuple #[y.val, .int .i64 er]) /\ RD B q bx x w1 V E m c (w'.alloc (bxG y)) /\ PN w'.heap.size y w.heap.size w'.heap.size (w'.alloc (bxG y)) /\ Below w.heap.size w w' := by
 refine (rev_own x w (h.xk.1.mono (by omega)) hpc).mono ?_
 rintro e w' ⟨y, er, rfl, o, b⟩
 exact ⟨y, er, rfl, (h.later b).later (below_alloc _ _), PN.new o b.size, b⟩
theorem RD.ren (h : RD B q bx x w1 V E m c w) (hpc : x.ps.length <= x.pc) (a1 a2 : Option Addr) (c1 c2 : Nat) (ts ns : List Int) (h1 : InRow w a1 ts) (h2 : InRow w a2 ns) (hl : ts.length <= 140737488355328 /\ ns.length <= 140737488355328) :
  Calls Tryz.prog 7 #[x.val, .slice a1 ts.length c1, .slice a2 ns.length c2] w fun e w' => ∃ (y : GV) (er : Int), e = .returned (.tuple #[y.val, .int .i64 er]) /\ RD B q bx x w1 V E m c (w'.alloc (bxG y)) /\ PN w'.heap.size y w.heap.size w'.heap.size (w'.alloc (bxG y)) /\ Below w.heap.size w w' := by
 refine (ren_own x a1 a2 c1 c2 ts ns w (h.xk.1.mono (by omega)) hpc h1 h2 hl).mono ?_
 rintro e w' ⟨y, er, rfl, o, b⟩
 exact ⟨y, er, rfl, (h.later b).later (below_alloc _ _), PN.new o b.size, b⟩
theorem RD.enc (h : RD B q bx x w1 V E m c w) (hpc : x.ps.length <= x.pc) (hm : C.Magic w) :
  Calls Tryz.prog 8 #[x.val] w fun e w' => ∃ (a : Option Addr) (N c' : Nat) (er : Int) (xs : List Int), e = .returned (.tuple #[.slice a N c', .int .i64 er]) /\ (C.RowAt w' a xs /\ N = xs.length /\ xs.length <= c' /\ N <= 100000000) /\ RD B q bx x w1 V E m c w' /\ LP 5 1 a N c' (C.vals xs) w.heap.size w'.heap.size w' /\ Below w.heap.size w w' := by
 refine (enc_own x w (h.xk.1.mono (by omega)) hpc hm).mono ?_
 rintro e w' ⟨a, N, c', er, xs, rfl, hr, hp, b⟩
 exact ⟨a, N, c', er, xs, rfl, hr, h.later b, ⟨hp, b.size, Nat.le_refl _, hr.2.2.2⟩, b⟩
theorem RD.dec (h : RD B q bx x w1 V E m c w) (hm : C.Magic w) (a : Option Addr) (N c' : Nat) (xs : List Int) (hr : C.RowAt w a xs /\ N = xs.length /\ xs.length <= c' /\ N <= 100000000) :
  Calls Tryz.prog 9 #[.slice a N c'] w fun e w' => ∃ (y : GV) (er at_ : Int), e = .returned (.tuple #[y.val, .int .i64 er, .int .i64 at_]) /\ RD B q bx x w1 V E m c (w'.alloc (bxG y)) /\ PN w'.heap.size y w.heap.size w'.heap.size (w'.alloc (bxG y)) /\ Below w.heap.size w w' := by
 refine (dec_own a N c' xs w hr hm).mono ?_
 rintro e w' ⟨y, er, at_, rfl, o, b⟩
 exact ⟨y, er, at_, rfl, (h.later b).later (below_alloc _ _), PN.new o b.size, b⟩
theorem RD.rules (h : RD B q bx x w1 V E m c w) (n : Int) :
  Calls Tryz.prog 13 #[x.val, .int .i64 n] w fun e w' => ∃ (a : Option Addr) (N c' : Nat) (X : List Value), e = .returned (.slice a N c') /\ RD B q bx x w1 V E m c w' /\ LP 3 1 a N c' X w.heap.size w'.heap.size w' := by
 refine (rules_own x n w h.xk.1).mono ?_
 rintro e w' ⟨a, c', rfl, hi, b, hl⟩
 have := rulesU_len x.ps n x.ps.length
 have := h.xk.1.pl
 exact ⟨a, _, c', _, rfl, h.later b, ⟨Put.of_own hi hl, b.size, Nat.le_refl _, by omega⟩⟩
theorem RD.uses (h : RD B q bx x w1 V E m c w) (k n : Int) (hu : (usesU x.ps (k, n) x.ps.length).length <= 100000000) :
  Calls Tryz.prog 15 #[x.val, .agg #[.int .i64 k, .int .i64 n]] w fun e w' => ∃ (a : Option Addr) (N c' : Nat) (X : List Value), e = .returned (.slice a N c') /\ RD B q bx x w1 V E m c w' /\ LP 107 2 a N c' X w.heap.size w'.heap.size w' := by
 refine (uses_own x k n w h.xk.1).mono ?_
 rintro e w' ⟨a, c', rfl, hi, b, hl⟩
 exact ⟨a, _, c', _, rfl, h.later b, ⟨Put.of_own hi hl, b.size, Nat.le_refl _, hu⟩⟩
end
end Go.Proofs.YthgnhdnmcjpdmaaGreatDoor
namespace Go.Proofs.YthgnhdnmcjpdmaaGreatDoor
set_option linter.unusedVariables false
set_option maxRecDepth 100000
set_option maxHeartbeats 16000000
open Go.RowKit Go.Maps
theorem five_put {w : World} {b : Nat} {y : GV} (h : w.heap[b]? = some (bxG y)) (x : GV) : (((((w.setCell ⟨b, 0, none⟩ (.slice x.ta x.ts.length x.tc)).setCell ⟨b, 1, none⟩ (.slice x.na x.ns.length x.nc)).setCell ⟨b, 2, none⟩ (.int .i64 x.start)).setCell ⟨b, 3, none⟩ (.slice x.pa x.ps.length x.pc)).setCell ⟨b, 4, none⟩ (.slice x.la x.ls.length x.lc)).heap[b]? = some (bxG x) :=
 heap_set (heap_set (heap_set (heap_set (heap_set h 0 _) 1 _) 2 _) 3 _) 4 _
theorem five_keep {n b : Nat} {w : World} (hb : n <= b) (v0 v1 v2 v3 v4 : Value) : Below n w (((((w.setCell ⟨b, 0, none⟩ v0).setCell ⟨b, 1, none⟩ v1).setCell ⟨b, 2, none⟩ v2).setCell ⟨b, 3, none⟩ v3).setCell ⟨b, 4, none⟩ v4) :=
 (((((Below.refl n w).setCell (p := ⟨b, 0, none⟩) hb _).setCell (p := ⟨b, 1, none⟩) hb _).setCell (p := ⟨b, 2, none⟩) hb _).setCell (p := ⟨b, 3, none⟩) hb _).setCell (p := ⟨b, 4, none⟩) hb _
theorem five_off {w : World} {b : Nat} (v0 v1 v2 v3 v4 : Value) (j : Nat) (hj : j ≠ b) : (((((w.setCell ⟨b, 0, none⟩ v0).setCell ⟨b, 1, none⟩ v1).setCell ⟨b, 2, none⟩ v2).setCell ⟨b, 3, none⟩ v3).setCell ⟨b, 4, none⟩ v4).heap[j]? = w.heap[j]? := by
 rw [Below.heap_setCell _ _ _ _ hj, Below.heap_setCell _ _ _ _ hj, Below.heap_setCell _ _ _ _ hj, Below.heap_setCell _ _ _ _ hj, Below.heap_setCell _ _ _ _ hj]
theorem no_frost {w : World} {b : Nat} {C : Array Value} {t : TypeId} (h : w.heap[b]? = some (.cells C t (0, 0))) (i : Nat) : w.frozen? ⟨b, i, none⟩ = false := by simp [World.frozen?, h]
theorem small_cap (b1 b2 b3 b4 : Nat) : (gSm b1 b2 b3 b4).ps.length <= (gSm b1 b2 b3 b4).pc := Nat.le_refl _
theorem small_uses (b1 b2 b3 b4 : Nat) (q : Int × Int) : (usesU (gSm b1 b2 b3 b4).ps q (gSm b1 b2 b3 b4).ps.length).length <= 100000000 := by
 have := usesU_len (ps := (gSm b1 b2 b3 b4).ps) (n := 1) q (fun p hp => by obtain rfl := List.mem_singleton.1 hp; show 1 <= 1; omega) 1 (Nat.le_refl _)
 exact Nat.le_trans this (by decide)
theorem small_x (w : World) :
  Calls Tryz.prog 5 #[] w fun e w' => ∃ x : GV, e = .returned (.agg #[.slice x.ta x.ts.length x.tc, .slice x.na x.ns.length x.nc, .int .i64 x.start, .slice x.pa x.ps.length x.pc, .slice x.la x.ls.length x.lc]) /\ (∀ (B : Nat) (w2 : World), (∀ (j : Nat) (C : Array Value) (t : TypeId), w'.heap[j]? = some (.cells C t (0, 0)) -> t ≠ 26 -> w2.heap[j]? = w'.heap[j]?) -> XK B w2 x) /\ x.ps.length <= x.pc /\ (∀ q, (usesU x.ps q x.ps.length).length <= 100000000) /\ Below w.heap.size w w' := by
 refine (small_own w).mono ?_
 rintro e w' ⟨b1, b2, b3, b4, rfl, sm, bm⟩
 exact ⟨gSm b1 b2 b3 b4, rfl, fun B w2 hk => SmW.xk ⟨(hk _ _ _ sm.h1 (by decide)).trans sm.h1, (hk _ _ _ sm.h2 (by decide)).trans sm.h2, (hk _ _ _ sm.h3 (by decide)).trans sm.h3, (hk _ _ _ sm.h4 (by decide)).trans sm.h4⟩, small_cap b1 b2 b3 b4, small_uses b1 b2 b3 b4, bm⟩
theorem own_walk (g : GV) (a1 a2 : Option Addr) (c1 c2 : Nat) (ts ns : List Int) (k n : Int) (w : World) (hm : C.Magic w) (h : GAt 1048576 w g) (hpc : g.ps.length <= g.pc) (h1 : InRow w a1 ts) (h2 : InRow w a2 ns) (hl : ts.length <= 140737488355328 /\ ns.length <= 140737488355328) (hu : (usesU g.ps (k, n) g.ps.length).length <= 100000000) :
  Calls Tryz.prog 3 #[g.val, .slice a1 ts.length c1, .slice a2 ns.length c2, .agg #[.int .i64 k, .int .i64 n]] w fun e w' => e = .returned (.bool true) /\ Below w.heap.size w w' := by
 have F0 : Hid (Below w.heap.size w ((w.alloc (bxG g)).alloc (syBox k n))) := (below_alloc w _).trans ((below_alloc _ _).mono (below_alloc w _).size)
 have X0 : Hid (((w.alloc (bxG g)).alloc (syBox k n)).heap[w.heap.size]? = some (bxG g) /\ ((w.alloc (bxG g)).alloc (syBox k n)).heap[w.heap.size + 1]? = some (syBox k n)) := by
  refine ⟨((below_alloc (w.alloc (bxG g)) (syBox k n)).block _ (lt_of_block (heap_alloc_new w (bxG g)))).trans (heap_alloc_new _ _), ?_⟩
  have := heap_alloc_new (w.alloc (bxG g)) (syBox k n)
  rwa [show (w.alloc (bxG g)).heap.size = w.heap.size + 1 by simp] at this
 have HM : Hid (∀ w', Below w.heap.size w w' -> C.Magic w' /\ GAt 1048576 w' g /\ InRow w' a1 ts /\ InRow w' a2 ns) := fun w' hb => ⟨C.Magic.later hm hb hm.lt, h.later hb, h1.later hb, h2.later hb⟩
 have HGW : Hid (GAt 1048576 w g) := h
 have HL : Hid (ts.length <= 140737488355328 /\ ns.length <= 140737488355328) := hl
 have HU : Hid ((usesU g.ps (k, n) g.ps.length).length <= 100000000) := hu
 have HPC : Hid (g.ps.length <= g.pc) := hpc
 clear hm h hpc h1 h2 hl hu
 go_enter Tryz.func3, Tryz.ntmps3
 go_wp2_with (go_at_call 4; refine (alive_G _ (HM.out _ F0.out).1).mono ?_; rintro e w1 ⟨rfl, b1⟩; have F1 : Hid (Below w.heap.size w w1) := F0.out.trans (b1.mono F0.out.size); have X1 : Hid (w1.heap[w.heap.size]? = some (bxG g) /\ w1.heap[w.heap.size + 1]? = some (syBox k n)) := ⟨(b1.block _ (lt_of_block X0.out.1)).trans X0.out.1, (b1.block _ (lt_of_block X0.out.2)).trans X0.out.2⟩; clear b1)
 have KN : Hid (KS w1.heap.size (w1.alloc (.cells #[kNil, kNil, kNil, kNil, kNil, kNil, kNil, kNil, kNil, kNil, kNil, kNil, kNil, kNil, kNil, kNil] 49)) w1.heap.size (fun _ => kNil) (fun _ => []) w1.heap.size 0) := ⟨knew kG w1, fun _ _ => rfl, ⟨Nat.le_refl _, Nat.le_refl _⟩, fun _ => Nat.zero_le _, fun _ e he => (by cases he), fun _ e he => (by cases he), Nat.zero_le _⟩
 have BK : Hid (Below w1.heap.size w1 (w1.alloc (.cells #[kNil, kNil, kNil, kNil, kNil, kNil, kNil, kNil, kNil, kNil, kNil, kNil, kNil, kNil, kNil, kNil] 49))) := below_alloc _ _
 have SYM : Hid (∀ w', Below w1.heap.size w1 w' -> w'.cell? ⟨w.heap.size + 1, 0, none⟩ = some (.int .i64 k) /\ w'.cell? ⟨w.heap.size + 1, 1, none⟩ = some (.int .i64 n)) := fun w' hb => by
  have e := (hb.block _ (lt_of_block X1.out.2)).trans X1.out.2
  exact ⟨(cellq_any e).trans rfl, (cellq_any e).trans rfl⟩
 have GBX : Hid (∀ w', Below w1.heap.size w1 w' -> w'.heap[w.heap.size]? = some (bxG g)) := fun w' hb => (hb.block _ (lt_of_block X1.out.1)).trans X1.out.1
 have BW : Hid (∀ w', Below w1.heap.size w1 w' -> Below w.heap.size w w') := fun w' hb => F1.out.trans (hb.mono F1.out.size)
 have IN : Hid (∀ w', Below w1.heap.size w1 w' -> InRow w' a1 ts /\ InRow w' a2 ns) := fun w' hb => (HM.out _ (BW.out w' hb)).2.2
 have MG0 : Hid (∀ w', Below w1.heap.size w1 w' -> C.Magic w') := fun w' hb => (HM.out _ (BW.out w' hb)).1
 clear F0 X0 X1
 go_loopw [10] (fun z wr => ∃ (i : Nat) (V : Nat -> Value) (E : Nat -> List LE), i <= 3 /\ z = .int .i64 i /\ KS w1.heap.size wr w1.heap.size V E wr.heap.size (21 * i) /\ Below w1.heap.size w1 wr) (fun z _ => 3 - (intOf z).toNat)
 case atStart => exact ⟨0, _, _, Nat.zero_le _, rfl, KN.out.up BK.out.size, BK.out⟩
 case round =>
  clear KN BK
  obtain ⟨i, V, E, hi, rfl, hS, hb⟩ := hrel
  have hbs : w1.heap.size <= wr.heap.size := hb.size
  by_cases hlt : i < 3
  ·have ilt : (i : Int) < 3 := by omega
   obtain ⟨x0, x1, x2, x3, x4⟩ := box_cells (GBX.out wr hb)
   have HSZ : Hid (w1.heap.size <= wr.heap.size) := hbs
   have HI3 : Hid (i < 3) := hlt
   obtain ⟨c, hc⟩ : ∃ c, c = 21 * i := ⟨_, rfl⟩
   have HC : Hid (c = 21 * i) := hc
   have hc7 : c < 700 := by omega
   rw [<- hc] at hS
   have HS : Hid (KS w1.heap.size wr w1.heap.size V E wr.heap.size c) := hS
   have HB : Hid (Below w1.heap.size w1 wr) := hb
   have ZA : Hid ((wr.alloc (bxG g)).heap[wr.heap.size]? = some (bxG g)) := heap_alloc_new _ _
   clear hS hb hc
   by_cases h1 : i = 1
   ·have e1 : ((i : Int) == 1) = true := by simp [h1]
    go_wp2_with (first
     | (go_at_call 5; refine (small_x _).mono ?_; rintro e w2 ⟨x, rfl, xk', cap', us', bm'⟩; have ZM : Hid (w2.heap[wr.heap.size]? = some (bxG g)) := (bm'.block _ (lt_of_block ZA.out)).trans ZA.out; have BF : Hid (Below wr.heap.size wr (((((w2.setCell ⟨wr.heap.size, 0, none⟩ (.slice x.ta x.ts.length x.tc)).setCell ⟨wr.heap.size, 1, none⟩ (.slice x.na x.ns.length x.nc)).setCell ⟨wr.heap.size, 2, none⟩ (.int .i64 x.start)).setCell ⟨wr.heap.size, 3, none⟩ (.slice x.pa x.ps.length x.pc)).setCell ⟨wr.heap.size, 4, none⟩ (.slice x.la x.ls.length x.lc))) := ((below_alloc wr (bxG g)).trans (bm'.mono (below_alloc wr (bxG g)).size)).trans (five_keep (Nat.le_refl _) _ _ _ _ _); have P0 : Hid (RD w1.heap.size w1.heap.size wr.heap.size x w1 V E wr.heap.size c (((((w2.setCell ⟨wr.heap.size, 0, none⟩ (.slice x.ta x.ts.length x.tc)).setCell ⟨wr.heap.size, 1, none⟩ (.slice x.na x.ns.length x.nc)).setCell ⟨wr.heap.size, 2, none⟩ (.int .i64 x.start)).setCell ⟨wr.heap.size, 3, none⟩ (.slice x.pa x.ps.length x.pc)).setCell ⟨wr.heap.size, 4, none⟩ (.slice x.la x.ls.length x.lc))) := ⟨HS.out.later BF.out, five_put ZM.out x, xk' _ _ (fun j C t hj ht => five_off _ _ _ _ _ j (fun e => ht (by rw [e, ZM.out] at hj; simp at hj; exact hj.2.symm))), HB.out.trans (BF.out.mono HSZ.out), BF.out.size, HSZ.out⟩; have CAP : Hid (x.ps.length <= x.pc) := cap'; have USE : Hid ((usesU x.ps (k, n) x.ps.length).length <= 100000000) := us' (k, n); clear x0 x1 x2 x3 x4; obtain ⟨z0, z1, z2, z3, z4⟩ := box_cells ZM.out; have f0 := no_frost ZM.out 0; have f1 := no_frost ZM.out 1; have f2 := no_frost ZM.out 2; have f3 := no_frost ZM.out 3; have f4 := no_frost ZM.out 4; have hz := lt_of_block ZM.out; obtain ⟨x0, x1, x2, x3, x4⟩ := box_cells P0.out.bx; clear xk' cap' us' bm')
     | (go_at_call 10; refine (P7.out.gram D7.out (Nat.le_refl _) (by omega)).mono ?_; rintro e w9 ⟨rfl, V9, E9, r9, q9⟩; have P8 : Hid _ := r9; clear x0 x1 x2 x3 x4 p0 p1 p2 p3 p4; obtain ⟨x0, x1, x2, x3, x4⟩ := box_cells P8.out.bx; clear r9 q9)
     | (go_at_call 10; refine (P5.out.gram B5.out (Nat.le_of_lt HS2.out) (by omega)).mono ?_; rintro e w7 ⟨rfl, V7, E7, r7, q7⟩; have P6 : Hid _ := r7; have C6 : Hid _ := C5.out.keep 0 rfl q7; have D6 : Hid _ := D5.out.keep q7; clear p0 p1 p2 p3 p4; clear r7 q7)
     | (go_at_call 10; refine (P4.out.gram A4.out P0.out.mz (by omega)).mono ?_; rintro e w6 ⟨rfl, V6, E6, r6, q6⟩; have P5 : Hid _ := r6; have B5 : Hid _ := B4.out.keep q6; have C5 : Hid _ := C4.out.keep 0 rfl q6; have D5 : Hid _ := D4.out.keep q6; clear p0 p1 p2 p3 p4; obtain ⟨p0, p1, p2, p3, p4⟩ := box_cells B5.out.bx; clear r6 q6)
     | (go_at_call 11; refine (P6.out.bytes C6.out (Nat.le_of_lt HS3.out) (by omega)).mono ?_; rintro e w8 ⟨rfl, V8, E8, r8, q8⟩; have P7 : Hid _ := r8; have D7 : Hid _ := D6.out.keep q8; obtain ⟨p0, p1, p2, p3, p4⟩ := box_cells D7.out.bx; clear r8 q8)
     | (go_at_call 12; refine (P9.out.ints R9.out P8.out.mz (by omega)).mono ?_; rintro e w11 ⟨rfl, V11, E11, r11, q11⟩; have P10 : Hid _ := r11; clear x0 x1 x2 x3 x4; obtain ⟨x0, x1, x2, x3, x4⟩ := box_cells P10.out.bx; obtain ⟨s0, s1⟩ := SYM.out _ P10.out.hb; clear r11 q11)
     | (go_at_call 14; refine (P11.out.cores U11.out P10.out.mz (by omega)).mono ?_; rintro e w13 ⟨rfl, V13, E13, r13, q13⟩; have P12 : Hid _ := r13; clear r13 q13)
     | (go_at_call 6; refine (P0.out.rev CAP.out).mono ?_; rintro e w2 ⟨ya, era, rfl, r1, n1, b1⟩; have P1 : Hid _ := r1; have A1 : Hid _ := n1; clear x0 x1 x2 x3 x4; obtain ⟨x0, x1, x2, x3, x4⟩ := box_cells P1.out.bx; clear r1 n1 b1)
     | (go_at_call 7; refine (P1.out.ren CAP.out a1 a2 c1 c2 ts ns (IN.out _ P1.out.hb).1 (IN.out _ P1.out.hb).2 HL.out).mono ?_; rintro e w3 ⟨yb, erb, rfl, r2, n2, b2⟩; have HS2 : Hid (w2.heap.size < (w2.alloc (bxG ya)).heap.size) := (by show _ < _; simp); have P2 : Hid _ := r2; have A2 : Hid _ := (A1.out.later b2).later (below_alloc w3 (bxG yb)); have B2 : Hid _ := n2; clear x0 x1 x2 x3 x4; obtain ⟨x0, x1, x2, x3, x4⟩ := box_cells P2.out.bx; clear r2 n2 b2)
     | (go_at_call 8; refine (P2.out.enc CAP.out (MG0.out _ P2.out.hb)).mono ?_; rintro e w4 ⟨ca, cn, cc, erc, xs, rfl, hr3, r3, l3, b3⟩; have HS3 : Hid (w3.heap.size < (w3.alloc (bxG yb)).heap.size) := (by show _ < _; simp); have P3 : Hid _ := r3; have A3 : Hid _ := A2.out.later b3; have B3 : Hid _ := B2.out.later b3; have C3 : Hid _ := l3; have RW : Hid _ := hr3; clear r3 l3 b3 hr3)
     | (go_at_call 9; refine (P3.out.dec (MG0.out _ P3.out.hb) ca cn cc xs RW.out).mono ?_; rintro e w5 ⟨yd, erd, atd, rfl, r4, n4, b4⟩; have P4 : Hid _ := r4; have A4 : Hid _ := (A3.out.later b4).later (below_alloc w5 (bxG yd)); have B4 : Hid _ := (B3.out.later b4).later (below_alloc w5 (bxG yd)); have C4 : Hid _ := (C3.out.keep 0 rfl (KQ.of b4)).keep 0 rfl (KQ.of (below_alloc w5 (bxG yd))); have D4 : Hid _ := n4; obtain ⟨p0, p1, p2, p3, p4⟩ := box_cells A4.out.bx; clear x0 x1 x2 x3 x4; obtain ⟨x0, x1, x2, x3, x4⟩ := box_cells P4.out.bx; clear r4 n4 b4)
     | (go_at_call 13; refine (P8.out.rules 0).mono ?_; rintro e w10 ⟨ra, rn, rc, RX, rfl, r9, l9⟩; have P9 : Hid _ := r9; have R9 : Hid _ := l9; clear r9 l9)
     | (go_at_call 15; refine (P10.out.uses k n USE.out).mono ?_; rintro e w12 ⟨ua, un, uc, UX, rfl, r11, l11⟩; have P11 : Hid _ := r11; have U11 : Hid _ := l11; clear r11 l11))
    go_roundw
    case rel =>
     refine ⟨i + 1, V13, E13, by omega, by go_num, ?_, P12.out.hb⟩
     rw [show 21 * (i + 1) = c + 6 + 6 + 1 + 6 + 1 + 1 by have := HC.out; omega]
     exact P12.out.ks.up P12.out.mz
    case measure => simp [intOf]; omega
   ·have e1 : ((i : Int) == 1) = false := by simp only [beq_eq_false_iff_ne, ne_eq]; omega
    have P0 : Hid (RD w1.heap.size w1.heap.size wr.heap.size g w1 V E wr.heap.size c (wr.alloc (bxG g))) := ⟨HS.out.later (below_alloc _ _), ZA.out, XK.given HGW.out F1.out.size (BW.out _ (HB.out.trans ((below_alloc _ _).mono HSZ.out))), HB.out.trans ((below_alloc _ _).mono HSZ.out), (below_alloc wr _).size, HSZ.out⟩
    have CAP : Hid (g.ps.length <= g.pc) := HPC
    have USE : Hid ((usesU g.ps (k, n) g.ps.length).length <= 100000000) := HU
    have y0 := (box_cells P0.out.bx)
    obtain ⟨y0, y1, y2, y3, y4⟩ := y0
    go_wp2_with (first
     | (go_at_call 10; refine (P7.out.gram D7.out (Nat.le_refl _) (by omega)).mono ?_; rintro e w9 ⟨rfl, V9, E9, r9, q9⟩; have P8 : Hid _ := r9; clear x0 x1 x2 x3 x4 p0 p1 p2 p3 p4; obtain ⟨x0, x1, x2, x3, x4⟩ := box_cells P8.out.bx; clear r9 q9)
     | (go_at_call 10; refine (P5.out.gram B5.out (Nat.le_of_lt HS2.out) (by omega)).mono ?_; rintro e w7 ⟨rfl, V7, E7, r7, q7⟩; have P6 : Hid _ := r7; have C6 : Hid _ := C5.out.keep 0 rfl q7; have D6 : Hid _ := D5.out.keep q7; clear p0 p1 p2 p3 p4; clear r7 q7)
     | (go_at_call 10; refine (P4.out.gram A4.out P0.out.mz (by omega)).mono ?_; rintro e w6 ⟨rfl, V6, E6, r6, q6⟩; have P5 : Hid _ := r6; have B5 : Hid _ := B4.out.keep q6; have C5 : Hid _ := C4.out.keep 0 rfl q6; have D5 : Hid _ := D4.out.keep q6; clear p0 p1 p2 p3 p4; obtain ⟨p0, p1, p2, p3, p4⟩ := box_cells B5.out.bx; clear r6 q6)
     | (go_at_call 11; refine (P6.out.bytes C6.out (Nat.le_of_lt HS3.out) (by omega)).mono ?_; rintro e w8 ⟨rfl, V8, E8, r8, q8⟩; have P7 : Hid _ := r8; have D7 : Hid _ := D6.out.keep q8; obtain ⟨p0, p1, p2, p3, p4⟩ := box_cells D7.out.bx; clear r8 q8)
     | (go_at_call 12; refine (P9.out.ints R9.out P8.out.mz (by omega)).mono ?_; rintro e w11 ⟨rfl, V11, E11, r11, q11⟩; have P10 : Hid _ := r11; clear x0 x1 x2 x3 x4; obtain ⟨x0, x1, x2, x3, x4⟩ := box_cells P10.out.bx; obtain ⟨s0, s1⟩ := SYM.out _ P10.out.hb; clear r11 q11)
     | (go_at_call 14; refine (P11.out.cores U11.out P10.out.mz (by omega)).mono ?_; rintro e w13 ⟨rfl, V13, E13, r13, q13⟩; have P12 : Hid _ := r13; clear r13 q13)
     | (go_at_call 6; refine (P0.out.rev CAP.out).mono ?_; rintro e w2 ⟨ya, era, rfl, r1, n1, b1⟩; have P1 : Hid _ := r1; have A1 : Hid _ := n1; clear x0 x1 x2 x3 x4 y0 y1 y2 y3 y4; obtain ⟨x0, x1, x2, x3, x4⟩ := box_cells P1.out.bx; clear r1 n1 b1)
     | (go_at_call 7; refine (P1.out.ren CAP.out a1 a2 c1 c2 ts ns (IN.out _ P1.out.hb).1 (IN.out _ P1.out.hb).2 HL.out).mono ?_; rintro e w3 ⟨yb, erb, rfl, r2, n2, b2⟩; have HS2 : Hid (w2.heap.size < (w2.alloc (bxG ya)).heap.size) := (by show _ < _; simp); have P2 : Hid _ := r2; have A2 : Hid _ := (A1.out.later b2).later (below_alloc w3 (bxG yb)); have B2 : Hid _ := n2; clear x0 x1 x2 x3 x4; obtain ⟨x0, x1, x2, x3, x4⟩ := box_cells P2.out.bx; clear r2 n2 b2)
     | (go_at_call 8; refine (P2.out.enc CAP.out (MG0.out _ P2.out.hb)).mono ?_; rintro e w4 ⟨ca, cn, cc, erc, xs, rfl, hr3, r3, l3, b3⟩; have HS3 : Hid (w3.heap.size < (w3.alloc (bxG yb)).heap.size) := (by show _ < _; simp); have P3 : Hid _ := r3; have A3 : Hid _ := A2.out.later b3; have B3 : Hid _ := B2.out.later b3; have C3 : Hid _ := l3; have RW : Hid _ := hr3; clear r3 l3 b3 hr3)
     | (go_at_call 9; refine (P3.out.dec (MG0.out _ P3.out.hb) ca cn cc xs RW.out).mono ?_; rintro e w5 ⟨yd, erd, atd, rfl, r4, n4, b4⟩; have P4 : Hid _ := r4; have A4 : Hid _ := (A3.out.later b4).later (below_alloc w5 (bxG yd)); have B4 : Hid _ := (B3.out.later b4).later (below_alloc w5 (bxG yd)); have C4 : Hid _ := (C3.out.keep 0 rfl (KQ.of b4)).keep 0 rfl (KQ.of (below_alloc w5 (bxG yd))); have D4 : Hid _ := n4; obtain ⟨p0, p1, p2, p3, p4⟩ := box_cells A4.out.bx; clear x0 x1 x2 x3 x4; obtain ⟨x0, x1, x2, x3, x4⟩ := box_cells P4.out.bx; clear r4 n4 b4)
     | (go_at_call 13; refine (P8.out.rules 0).mono ?_; rintro e w10 ⟨ra, rn, rc, RX, rfl, r9, l9⟩; have P9 : Hid _ := r9; have R9 : Hid _ := l9; clear r9 l9)
     | (go_at_call 15; refine (P10.out.uses k n USE.out).mono ?_; rintro e w12 ⟨ua, un, uc, UX, rfl, r11, l11⟩; have P11 : Hid _ := r11; have U11 : Hid _ := l11; clear r11 l11))
    go_roundw
    case rel =>
     refine ⟨i + 1, V13, E13, by omega, by go_num, ?_, P12.out.hb⟩
     rw [show 21 * (i + 1) = c + 6 + 6 + 1 + 6 + 1 + 1 by have := HC.out; omega]
     exact P12.out.ks.up P12.out.mz
    case measure => simp [intOf]; omega
  ·obtain rfl : i = 3 := by omega
   have ilt : ¬ ((3 : Nat) : Int) < 3 := by omega
   have HSS : Hid (KS w1.heap.size wr w1.heap.size V E wr.heap.size (21 * 3) /\ Below w1.heap.size w1 wr) := ⟨hS, hb⟩
   clear hS hb
   go_wp2_with (go_at_call 16; refine (book_apartG w1.heap.size w1.heap.size V E wr HSS.out.1.ki HSS.out.1.no (Nat.le_trans HSS.out.1.few.1 (by omega)) (Nat.le_trans HSS.out.1.few.2 (by omega)) HSS.out.1.nines HSS.out.1.num).mono ?_; rintro e w9 ⟨rfl, b9⟩)
   go_ret
   exact ⟨rfl, BW.out _ (HSS.out.2.trans b9)⟩
end Go.Proofs.YthgnhdnmcjpdmaaGreatDoor
