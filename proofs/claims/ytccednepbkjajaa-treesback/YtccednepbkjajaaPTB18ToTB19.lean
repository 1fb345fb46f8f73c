import Derived.Test.YtccednepbkjajaaPTB17
namespace Go.Proofs.Ytccednepbkjajaa
set_option linter.unusedVariables false
open Go.RowKit
def fbU (n : Nat) : Nat -> List Int -> Option Nat
 | _, [] => none
 | i, x :: l => if 0 <= x /\ x < n then fbU n (i + 1) l else some i
def cpU (er : Int) (n : Nat) (l : List Int) : Int × Int := if er ≠ 0 then (er, 0) else match fbU n 0 l with
 | some i => (4, (i : Int))
 | none => if l = [] then (1, 0) else (0, 0)
theorem fb_none {n : Nat} : ∀ (l : List Int) (i : Nat), fbU n i l = none -> ∀ x ∈ l, 0 <= x /\ x < n
 | [], _, _, x, hx => by cases hx
 | y :: l, i, h, x, hx => by
  rw [fbU] at h
  split at h
  ·rename_i q
   rcases List.mem_cons.1 hx with rfl | hx
   ·exact q
   ·exact fb_none l (i + 1) h x hx
  ·cases h
theorem fb_of {n : Nat} : ∀ (l : List Int) (i : Nat), (∀ x ∈ l, 0 <= x /\ x < n) -> fbU n i l = none
 | [], _, _ => rfl
 | y :: l, i, h => by
  rw [fbU, if_pos (h y (List.mem_cons_self ..))]
  exact fb_of l (i + 1) fun x hx => h x (List.mem_cons_of_mem _ hx)
theorem cp_ok {er : Int} {n : Nat} {l : List Int} (h : (cpU er n l).1 = 0) : er = 0 /\ l ≠ [] /\ (∀ x ∈ l, 0 <= x /\ x < n) /\ cpU er n l = (0, 0) := by
 unfold cpU at h ⊢
 by_cases h0 : er = 0
 ·rw [if_neg (by simpa using h0)] at h ⊢
  cases hf : fbU n 0 l with
  | some i => rw [hf] at h; cases h
  | none =>
   rw [hf] at h
   dsimp only at h ⊢
   by_cases hl : l = []
   ·rw [if_pos hl] at h; cases h
   ·rw [if_neg hl]
    exact ⟨h0, hl, fb_none l 0 hf, rfl⟩
 ·rw [if_pos h0] at h
  exact absurd h h0
theorem cp_of {n : Nat} {l : List Int} (hl : l ≠ []) (h : ∀ x ∈ l, 0 <= x /\ x < n) : cpU 0 n l = (0, 0) := by
 unfold cpU
 rw [if_neg (by simp), fb_of l 0 h]
 exact if_neg hl
set_option linter.unusedSimpArgs false in
set_option maxRecDepth 100000 in
set_option maxHeartbeats 4000000 in
theorem checkProds_W {w : World} {g : GV} {pa : Option Addr} {pc : Nat} {l : List Int} (hg : GAt 140737488355328 w g) (hpc : g.ps.length <= g.pc) (er at_ : Int) (hE : checkG g (checkF g.ts g.ns) = (er, at_)) (hli : InRow w pa l) (hl : l.length <= 1000000000) : Calls Try.prog 28 #[g.val, .slice pa l.length pc] w fun e w' => e = .returned (.tuple #[.int .i64 (cpU er g.ps.length l).1, .int .i64 (cpU er g.ps.length l).2]) /\ Below w.heap.size w w' := by
 have X0 : Hid (Below w.heap.size w (w.alloc (gBox g)) /\ (w.alloc (gBox g)).heap[w.heap.size]? = some (gBox g)) := ⟨below_alloc _ _, heap_alloc_new _ _⟩
 have CK : Hid (∀ w', Below w.heap.size w w' -> Calls Try.prog 19 #[g.val] w' fun e w'' => e = .returned (.tuple #[.int .i64 er, .int .i64 at_]) /\ Below w'.heap.size w' w'') := fun w' hb => check_G g w' (hg.later hb) hpc er at_ hE
 have CP : Hid (∀ (n : Int) w', Calls Try.prog 45 #[g.val, .int .i64 n] w' fun e w'' => e = .returned (.bool (decide (0 <= n) && decide (n < g.ps.length))) /\ Below w'.heap.size w' w'') := fun n w' => isProd_W g n w' hg.pl
 have HL : Hid (∀ w', Below w.heap.size w w' -> InRow w' pa l) := fun w' hb => hli.later hb
 obtain ⟨x0, x1, x2, x3, x4⟩ := gbx_cells X0.out.2
 clear hg hpc hE hli
 by_cases h0 : er = 0
 ·subst h0
  have t1 : ((0 : Int) != 0) = false := by decide
  have HC : Hid (cpU 0 g.ps.length l = match fbU g.ps.length 0 l with
   | some i => (4, (i : Int))
   | none => if l = [] then (1, 0) else (0, 0)) := if_neg (by simp)
  go_enter Try.func28, Try.ntmps28
  go_wp2_with (go_at_call 19; refine (CK.out _ X0.out.1).mono ?_; rintro e w2 ⟨rfl, b2⟩; have B2 : Hid (Below w.heap.size w w2 /\ w2.heap[w.heap.size]? = some (gBox g)) := ⟨X0.out.1.trans (b2.mono X0.out.1.size), (b2.block _ (lt_of_block X0.out.2)).trans X0.out.2⟩; clear b2 x0 x1 x2 x3 x4)
  go_loopw [20] (fun z wr => ∃ k : Nat, k <= l.length /\ z = .int .i64 k /\ (Below w.heap.size w wr /\ wr.heap[w.heap.size]? = some (gBox g)) /\ fbU g.ps.length k (l.drop k) = fbU g.ps.length 0 l) (fun i _ => l.length - (intOf i).toNat)
  case atStart => exact ⟨0, Nat.zero_le _, rfl, B2.out, rfl⟩
  case round =>
   clear B2 CK X0
   obtain ⟨k, hk, rfl, hB, hf⟩ := hrel
   have BB : Hid (Below w.heap.size w wr /\ wr.heap[w.heap.size]? = some (gBox g)) := hB
   by_cases hlt : k < l.length
   ·obtain ⟨b, off, rfl, hbl, hc⟩ := HL.out _ hB.1 (by intro h; subst h; simp at hlt)
    have c0 := hc k hlt
    have e0 : l.getD k 0 = l[k] := by simp [List.getD, hlt]
    obtain ⟨x0, x1, x2, x3, x4⟩ := gbx_cells hB.2
    rw [List.drop_eq_getElem_cons hlt, fbU] at hf
    rw [e0] at c0
    generalize l[k] = x at *
    have CX := CP.out x
    by_cases hx : 0 <= x /\ x < g.ps.length
    ·have tb : (decide (0 <= x) && decide (x < (g.ps.length : Int))) = true := by simpa using hx
     rw [if_pos hx] at hf
     have HF : Hid (fbU g.ps.length (k + 1) (l.drop (k + 1)) = fbU g.ps.length 0 l) := hf
     rw [tb] at CX
     have CX' : Hid _ := CX
     clear hB hc hf e0 hbl hx tb CX
     go_wp2_with (go_at_call 45; refine (CX'.out _).mono ?_; rintro e w3 ⟨rfl, b3⟩; have B3 : Hid (Below w.heap.size w w3 /\ w3.heap[w.heap.size]? = some (gBox g)) := ⟨BB.out.1.trans (b3.mono BB.out.1.size), (b3.block _ (lt_of_block BB.out.2)).trans BB.out.2⟩; clear b3)
     go_roundw
     case rel => exact ⟨k + 1, by omega, by go_num, B3.out, HF.out⟩
     case measure => simp [intOf]; omega
    ·have tb : (decide (0 <= x) && decide (x < (g.ps.length : Int))) = false := by
      simpa using hx
     rw [if_neg hx] at hf
     have HF : Hid (cpU 0 g.ps.length l = (4, (k : Int))) := by show _ = _; rw [HC.out, <- hf]
     rw [tb] at CX
     have CX' : Hid _ := CX
     clear hB hc hf e0 hbl hx tb CX
     go_wp2_with (go_at_call 45; refine (CX'.out _).mono ?_; rintro e w3 ⟨rfl, b3⟩; have B3 : Hid (Below w.heap.size w w3) := BB.out.1.trans (b3.mono BB.out.1.size); clear b3)
     refine bodyPost_ret (results_tmp2 rfl _ _ _) rfl ?_
     rw [HF.out]
     exact ⟨rfl, B3.out⟩
   ·obtain rfl : k = l.length := by omega
    rw [List.drop_length, fbU] at hf
    by_cases hn : l = []
    ·subst hn
     have HF : Hid (cpU 0 g.ps.length [] = (1, 0)) := by show _ = _; rw [HC.out, <- hf]; rfl
     clear hB hf HC
     simp only [List.length_nil] at *
     go_wp2
     refine bodyPost_ret (results_tmp2 rfl _ _ _) rfl ?_
     rw [HF.out]
     exact ⟨rfl, BB.out.1⟩
    ·have HF : Hid (cpU 0 g.ps.length l = (0, 0)) := by show _ = _; rw [HC.out, <- hf]; exact if_neg hn
     have tn : ((l.length : Int) == 0) = false := by
      have := List.length_pos_iff.2 hn
      simp; omega
     clear hB hf HC hn
     go_wp2
     refine bodyPost_ret (results_tmp2 rfl _ _ _) rfl ?_
     rw [HF.out]
     exact ⟨rfl, BB.out.1⟩
 ·have t1 : (er != 0) = true := by simpa using h0
  have HC : Hid (cpU er g.ps.length l = (er, 0)) := if_pos h0
  clear h0
  go_enter Try.func28, Try.ntmps28
  go_wp2_with (go_at_call 19; refine (CK.out _ X0.out.1).mono ?_; rintro e w2 ⟨rfl, b2⟩; have R : Hid (Below w.heap.size w w2) := X0.out.1.trans (b2.mono X0.out.1.size); clear b2)
  refine bodyPost_ret (results_tmp2 rfl _ _ _) rfl ?_
  rw [HC.out]
  exact ⟨rfl, R.out⟩
def ansE (N : Nat) (u : Option TV × Int × Int) (e : Ending) (w' : World) : Prop := match u with
 | (none, e1, at_) => e = .returned (.tuple #[TV.none.val, .int .i64 e1, .int .i64 at_])
 | (some t, _, _) => ∃ t', samV t' t /\ OwT N w' t' /\ e = .returned (.tuple #[t'.val, .int .i64 0, .int .i64 0])
theorem dvE_ans {N : Nat} {g : GV} {l : List Int} {L : List (Int × ByteArray)} {e : Ending} {w' : World} (h : dvE N g l L e w') : ansE N (deriveU g l L) e w' := by
 unfold dvE at h
 unfold ansE
 generalize deriveU g l L = u at *
 obtain ⟨ot, e1, e2⟩ := u
 cases ot <;> exact h
def fromU (cp : Int × Int) (u : Option TV × Int × Int) : Option TV × Int × Int := if cp.1 ≠ 0 then (none, cp.1, cp.2) else u
set_option linter.unusedSimpArgs false in
set_option maxRecDepth 100000 in
set_option maxHeartbeats 4000000 in
theorem fromLeft_W {w : World} {g : GV} {pa wa : Option Addr} {pc wc : Nat} {l : List Int} {L : List (Int × ByteArray)} (hg : GAt 140737488355328 w g) (hpc : g.ps.length <= g.pc) (er at_ : Int) (hE : checkG g (checkF g.ts g.ns) = (er, at_)) (hli : InRow w pa l) (hl : l.length <= 1000000000) (u : Option TV × Int × Int)
  (hD : (cpU er g.ps.length l).1 = 0 -> ∀ w', Below w.heap.size w w' -> Calls Try.prog 29 #[g.val, .slice pa l.length pc, .slice wa L.length wc] w' fun e w'' => Below w'.heap.size w' w'' /\ ansE w'.heap.size u e w'') :
  Calls Try.prog 10 #[g.val, .slice pa l.length pc, .slice wa L.length wc] w fun e w' => Below w.heap.size w w' /\ ansE w.heap.size (fromU (cpU er g.ps.length l) u) e w' := by
 have X0 : Hid (Below w.heap.size w ((w.alloc (gBox g)).alloc zTrB) /\ ((w.alloc (gBox g)).alloc zTrB).heap[w.heap.size]? = some (gBox g) /\ ((w.alloc (gBox g)).alloc zTrB).heap[w.heap.size + 1]? = some zTrB) := by
  have h1 := below_alloc w (gBox g)
  have h2 := below_alloc (w.alloc (gBox g)) zTrB
  refine ⟨h1.trans (h2.mono h1.size), (h2.block _ (by simp)).trans (heap_alloc_new _ _), ?_⟩
  have := heap_alloc_new (w.alloc (gBox g)) zTrB
  rwa [show (w.alloc (gBox g)).heap.size = w.heap.size + 1 by simp] at this
 have CP : Hid (∀ w', Below w.heap.size w w' -> Calls Try.prog 28 #[g.val, .slice pa l.length pc] w' fun e w'' => e = .returned (.tuple #[.int .i64 (cpU er g.ps.length l).1, .int .i64 (cpU er g.ps.length l).2]) /\ Below w'.heap.size w' w'') := fun w' hb => checkProds_W (hg.later hb) hpc er at_ hE (hli.later hb) hl
 have HD : Hid ((cpU er g.ps.length l).1 = 0 -> ∀ w', Below w.heap.size w w' -> Calls Try.prog 29 #[g.val, .slice pa l.length pc, .slice wa L.length wc] w' fun e w'' => Below w'.heap.size w' w'' /\ ansE w'.heap.size u e w'') := hD
 obtain ⟨x0, x1, x2, x3, x4⟩ := gbx_cells X0.out.2.1
 clear hg hpc hE hli hl hD
 generalize cpU er g.ps.length l = cp at *
 obtain ⟨c1, c2⟩ := cp
 dsimp only at *
 have NB : Hid (∀ w2 : World, Below w.heap.size w w2 -> w2.heap[w.heap.size + 1]? = some zTrB -> (Below w.heap.size w (set4 w2 (w.heap.size + 1) 0 TV.none)) /\ TBx (set4 w2 (w.heap.size + 1) 0 TV.none) (w.heap.size + 1) 0 TV.none) := fun w2 h1 h2 =>
  ⟨set4_below h1 0 _ (by omega), set4_tbx _ ((cellq_any h2).trans rfl) ((cellq_any h2).trans rfl) ((cellq_any h2).trans rfl) ((cellq_any h2).trans rfl) (lt_of_block h2)⟩
 have FZ : Hid (∀ w2 : World, w2.heap[w.heap.size + 1]? = some zTrB -> (w2.frozen? ⟨w.heap.size + 1, 0, none⟩ = false /\ w2.frozen? ⟨w.heap.size + 1, 1, none⟩ = false /\ w2.frozen? ⟨w.heap.size + 1, 2, none⟩ = false /\ w2.frozen? ⟨w.heap.size + 1, 3, none⟩ = false) /\ w2.cell? ⟨w.heap.size + 1, 0, none⟩ = some (.int .i64 0) /\ w2.cell? ⟨w.heap.size + 1, 1, none⟩ = some (.int .i64 0) /\ w2.cell? ⟨w.heap.size + 1, 2, none⟩ = some (.string ⟨#[]⟩) /\ w2.cell? ⟨w.heap.size + 1, 3, none⟩ = some (.slice none 0 0)) := fun w2 h => by
  have f0 : ∀ i, w2.frozen? ⟨w.heap.size + 1, i, none⟩ = false := fun i => by simp [World.frozen?, h]
  exact ⟨⟨f0 0, f0 1, f0 2, f0 3⟩, (cellq_any h).trans rfl, (cellq_any h).trans rfl, (cellq_any h).trans rfl, (cellq_any h).trans rfl⟩
 by_cases h0 : c1 = 0
 ·subst h0
  have t1 : ((0 : Int) != 0) = false := by decide
  have eF : fromU (0, c2) u = u := if_neg (by simp)
  rw [eF]
  clear eF
  have HD0 := HD.out rfl
  obtain ⟨ot, e1, e2⟩ := u
  cases ot with
  | none =>
   have HD2 : Hid (∀ w', Below w.heap.size w w' -> Calls Try.prog 29 #[g.val, .slice pa l.length pc, .slice wa L.length wc] w' fun e w'' => e = .returned (.tuple #[.agg #[.int .i64 0, .int .i64 0, .string ⟨#[]⟩, .slice none 0 0], .int .i64 e1, .int .i64 e2]) /\ Below w'.heap.size w' w'') := fun w' hb => (HD0 w' hb).mono fun e w'' ⟨q1, q2⟩ => ⟨q2, q1⟩
   clear HD HD0
   go_enter Try.func10, Try.ntmps10
   go_upto_region 4 with (go_at_call 28; refine (CP.out _ X0.out.1).mono ?_; rintro e w2 ⟨rfl, b2⟩; have B2 : Hid (Below w.heap.size w w2 /\ w2.heap[w.heap.size]? = some (gBox g) /\ w2.heap[w.heap.size + 1]? = some zTrB) := ⟨X0.out.1.trans (b2.mono X0.out.1.size), (b2.block _ (lt_of_block X0.out.2.1)).trans X0.out.2.1, (b2.block _ (lt_of_block X0.out.2.2)).trans X0.out.2.2⟩; clear b2 x0 x1 x2 x3 x4; obtain ⟨x0, x1, x2, x3, x4⟩ := gbx_cells B2.out.2.1)
   go_wp2_with (go_at_call 29; refine (HD2.out _ B2.out.1).mono ?_; rintro e w3 ⟨rfl, b3⟩; have B3 : Hid (Below w.heap.size w w3 /\ w3.heap[w.heap.size + 1]? = some zTrB) := ⟨B2.out.1.trans (b3.mono B2.out.1.size), (b3.block _ (lt_of_block B2.out.2.2)).trans B2.out.2.2⟩; clear b3 x0 x1 x2 x3 x4; obtain ⟨⟨f0, f1, f2, f3⟩, z0, z1, z2, z3⟩ := FZ.out w3 B3.out.2)
   have B4 : Hid _ := NB.out w3 B3.out.1 B3.out.2
   change bodyPost _ _ _ _ _ (set4 w3 (w.heap.size + 1) 0 TV.none)
   generalize set4 w3 (w.heap.size + 1) 0 TV.none = w5 at *
   have y0 := B4.out.2.c0
   have y1 := B4.out.2.c1
   have y2 := B4.out.2.c2
   have y3 := B4.out.2.c3
   simp only [Nat.zero_add] at y1 y2 y3
   refine bodyPost_ret (v := .tuple #[TV.none.val, .int .i64 e1, .int .i64 e2]) (by simp [results, Try.results10, go_sem, y0, y1, y2, y3]) rfl ?_
   exact ⟨B4.out.1, rfl⟩
  | some t0 =>
   have HD2 : Hid (∀ w', Below w.heap.size w w' -> Calls Try.prog 29 #[g.val, .slice pa l.length pc, .slice wa L.length wc] w' fun e w'' => ∃ t', e = .returned (.tuple #[t'.val, .int .i64 0, .int .i64 0]) /\ Below w'.heap.size w' w'' /\ samV t' t0 /\ OwT w'.heap.size w'' t') := fun w' hb => (HD0 w' hb).mono fun e w'' ⟨q1, t', q2, q3, q4⟩ => ⟨t', q4, q1, q2, q3⟩
   clear HD HD0
   go_enter Try.func10, Try.ntmps10
   go_upto_region 4 with (go_at_call 28; refine (CP.out _ X0.out.1).mono ?_; rintro e w2 ⟨rfl, b2⟩; have B2 : Hid (Below w.heap.size w w2 /\ w2.heap[w.heap.size]? = some (gBox g) /\ w2.heap[w.heap.size + 1]? = some zTrB) := ⟨X0.out.1.trans (b2.mono X0.out.1.size), (b2.block _ (lt_of_block X0.out.2.1)).trans X0.out.2.1, (b2.block _ (lt_of_block X0.out.2.2)).trans X0.out.2.2⟩; clear b2 x0 x1 x2 x3 x4; obtain ⟨x0, x1, x2, x3, x4⟩ := gbx_cells B2.out.2.1)
   go_wp2_with (go_at_call 29; refine (HD2.out _ B2.out.1).mono ?_; rintro e w3 ⟨t, rfl, b3, s3, o3⟩; have B3 : Hid (Below w.heap.size w w3 /\ w3.heap[w.heap.size + 1]? = some zTrB /\ samV t t0 /\ OwT w2.heap.size w3 t /\ w.heap.size + 1 < w2.heap.size) := ⟨B2.out.1.trans (b3.mono B2.out.1.size), (b3.block _ (lt_of_block B2.out.2.2)).trans B2.out.2.2, s3, o3, lt_of_block B2.out.2.2⟩; clear b3 s3 o3 x0 x1 x2 x3 x4; obtain ⟨⟨f0, f1, f2, f3⟩, z0, z1, z2, z3⟩ := FZ.out w3 B3.out.2.1)
   have H5 : Hid (Below w.heap.size w (set4 w3 (w.heap.size + 1) 0 t) /\ TBx (set4 w3 (w.heap.size + 1) 0 t) (w.heap.size + 1) 0 t /\ OwT w.heap.size (set4 w3 (w.heap.size + 1) 0 t) t) := by
    obtain ⟨a1, a2, -, a3, a4⟩ := B3.out
    refine ⟨set4_below a1 0 t (by omega), set4_tbx t z0 z1 z2 z3 (lt_of_block a2), ?_⟩
    have := a3.kept (w' := set4 w3 (w.heap.size + 1) 0 t) (fun a ha => set4_other _ _ _ _ _ (by have := (a3.ty a ha).1; omega)) (by rw [set4_size]; exact Nat.le_refl _)
    exact ⟨this.ta, this.cn, fun a ha => ⟨by have := (this.ty a ha).1; omega, (this.ty a ha).2⟩⟩
   change bodyPost _ _ _ _ _ (set4 w3 (w.heap.size + 1) 0 t)
   generalize set4 w3 (w.heap.size + 1) 0 t = w5 at *
   have y0 := H5.out.2.1.c0
   have y1 := H5.out.2.1.c1
   have y2 := H5.out.2.1.c2
   have y3 := H5.out.2.1.c3
   simp only [Nat.zero_add] at y1 y2 y3
   refine bodyPost_ret (v := .tuple #[t.val, .int .i64 0, .int .i64 0]) (by simp [results, Try.results10, go_sem, y0, y1, y2, y3]) rfl ?_
   exact ⟨H5.out.1, t, B3.out.2.2.1, H5.out.2.2, rfl⟩
 ·have t1 : (c1 != 0) = true := by simpa using h0
  have eF : fromU (c1, c2) u = (none, c1, c2) := if_pos h0
  rw [eF]
  clear eF h0 HD
  go_enter Try.func10, Try.ntmps10
  go_upto_region 3 with (go_at_call 28; refine (CP.out _ X0.out.1).mono ?_; rintro e w2 ⟨rfl, b2⟩; have B3 : Hid (Below w.heap.size w w2 /\ w2.heap[w.heap.size + 1]? = some zTrB) := ⟨X0.out.1.trans (b2.mono X0.out.1.size), (b2.block _ (lt_of_block X0.out.2.2)).trans X0.out.2.2⟩; clear b2 x0 x1 x2 x3 x4; obtain ⟨⟨f0, f1, f2, f3⟩, z0, z1, z2, z3⟩ := FZ.out w2 B3.out.2)
  have B4 : Hid _ := NB.out w2 B3.out.1 B3.out.2
  go_wp2
  change bodyPost _ _ _ _ _ (set4 w2 (w.heap.size + 1) 0 TV.none)
  generalize set4 w2 (w.heap.size + 1) 0 TV.none = w5 at *
  have y0 := B4.out.2.c0
  have y1 := B4.out.2.c1
  have y2 := B4.out.2.c2
  have y3 := B4.out.2.c3
  simp only [Nat.zero_add] at y1 y2 y3
  refine bodyPost_ret (v := .tuple #[TV.none.val, .int .i64 c1, .int .i64 c2]) (by simp [results, Try.results10, go_sem, y0, y1, y2, y3]) rfl ?_
  exact ⟨B4.out.1, rfl⟩
end Go.Proofs.Ytccednepbkjajaa
