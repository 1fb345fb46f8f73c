import Derived.Test.YtlkkllehaabebaaPPC25ToPC27
import Derived.Test.YtlkkllehaabebaaPPC12ToPC13
namespace Go.Proofs.Ytlkkllehaabebaa
set_option linter.unusedVariables false
set_option maxRecDepth 100000
set_option maxHeartbeats 16000000
open Go.RowKit Go.Maps
structure DRow (w : World) (ao : Option Addr) (l : List DM) : Prop where
 cells : l ≠ [] -> ∃ b off, ao = some ⟨b, off, none⟩ /\ b < w.heap.size /\ ∀ i (hi : i < l.length), w.cell? ⟨b, off + i * 6, none⟩ = some (.int .i64 l[i].d.look) /\ w.cell? ⟨b, off + i * 6 + 1, none⟩ = some (.int .i64 l[i].d.kind) /\ w.cell? ⟨b, off + i * 6 + 2, none⟩ = some (.int .i64 l[i].d.prod) /\ w.cell? ⟨b, off + i * 6 + 3, none⟩ = some (.slice l[i].ao l[i].d.drop.length l[i].c) /\ w.cell? ⟨b, off + i * 6 + 4, none⟩ = some (.bool l[i].d.sd) /\ w.cell? ⟨b, off + i * 6 + 5, none⟩ = some (.int .i64 l[i].d.lev)
 rows : ∀ x ∈ l, InRow w x.ao x.d.drop
theorem DRow.later {w w' : World} {ao : Option Addr} {l : List DM} (h : DRow w ao l) (hb : Below w.heap.size w w') : DRow w' ao l := by
 refine ⟨fun hne => ?_, fun x hx => (h.rows x hx).later hb⟩
 obtain ⟨b, off, rfl, hl, hc⟩ := h.cells hne
 have e : ∀ j, w'.cell? ⟨b, j, none⟩ = w.cell? ⟨b, j, none⟩ := fun j => hb.cell (p := ⟨b, j, none⟩) hl
 refine ⟨b, off, rfl, Nat.lt_of_lt_of_le hl hb.size, fun i hi => ?_⟩
 rw [e, e, e, e, e, e]
 exact hc i hi
def usedB (n : Nat) (x : DM) : Bool := decide (-1 <= x.d.lev /\ x.d.lev < n)
def usedL (n : Nat) (l : List DM) : List Bool := (List.range n).map fun i : Nat => l.any fun x => decide (x.d.lev = (i : Int))
theorem usedL_len (n : Nat) (l : List DM) : (usedL n l).length = n := by simp [usedL]
theorem usedL_nil (n : Nat) : usedL n [] = List.replicate n false := by
 apply List.ext_getElem
 ·simp [usedL]
 ·intro i h1 h2
  simp [usedL]
theorem usedL_none {n : Nat} {l : List DM} {x : DM} (h : x.d.lev = -1) : usedL n (l ++ [x]) = usedL n l := by
 unfold usedL
 apply List.map_congr_left
 intro i _
 rw [List.any_append]
 have : ¬ x.d.lev = (i : Int) := by omega
 simp [this]
theorem usedL_some {n : Nat} {l : List DM} {x : DM} {k : Nat} (h : x.d.lev = (k : Int)) : usedL n (l ++ [x]) = (usedL n l).set k true := by
 apply List.ext_getElem
 ·simp [usedL]
 ·intro i h1 h2
  rw [List.getElem_set]
  simp only [usedL, List.getElem_map, List.getElem_range, List.any_append]
  by_cases e : k = i
  ·subst e; simp [h]
  ·rw [if_neg e]
   have : ¬ x.d.lev = (i : Int) := by omega
   simp [this]
def UsO (g : GV) (l : List DM) (w : World) (e : Ending) (w' : World) : Prop := ((l.all (usedB g.ls.length) = true /\ ∃ b, e = .returned (.tuple #[.slice (some ⟨b, 0, none⟩) g.ls.length g.ls.length, .int .i64 0]) /\ BB w' b (usedL g.ls.length l) /\ w.heap.size <= b) ∨ (l.all (usedB g.ls.length) = false /\ e = .returned (.tuple #[.slice none 0 0, .int .i64 37]))) /\ Below w.heap.size w w'
set_option linter.unusedSimpArgs false in
theorem Used_ok (g : GV) (ao : Option Addr) (cap : Nat) (l : List DM) (w : World) (h : GAt 140737488355328 w g) (hpc : g.ps.length <= g.pc) (at_ : Int) (hE : checkG g (checkF g.ts g.ns) = (0, at_)) (hl : l.length <= 140737488355328) (hr : DRow w ao l) :
  Calls Try.prog 23 #[g.val, .slice ao l.length cap] w (UsO g l w) := by
 have X0 : Hid ((w.alloc (gBox g)).heap[w.heap.size]? = some (gBox g) /\ Below w.heap.size w (w.alloc (gBox g))) := ⟨heap_alloc_new _ _, below_alloc _ _⟩
 have CK : Hid (∀ w', Below w.heap.size w w' -> Calls Try.prog 32 #[g.val] w' fun e w'' => e = .returned (.tuple #[.int .i64 0, .int .i64 at_]) /\ Below w'.heap.size w' w'') := fun w' hb => check_G g w' (h.later hb) hpc 0 at_ hE
 have ok : OkC g := OkC.of (by rw [hE])
 have hll := ok.ll
 have HR : Hid (∀ w', Below w.heap.size w w' -> DRow w' ao l) := fun w' hb => hr.later hb
 have t0 : ((0 : Int) != 0) = false := by decide
 have hmk := make_boolF g.ls.length (by omega)
 clear h hE hr ok
 go_enter Try.func23, Try.ntmps23
 go_wp2_with (go_at_call 32; refine (CK.out _ X0.out.2).mono ?_; rintro e w1 ⟨rfl, b1⟩; have X1 : Hid (w1.heap[w.heap.size]? = some (gBox g) /\ Below w.heap.size w w1) := ⟨blk_later X0.out.1 b1, X0.out.2.trans (b1.mono X0.out.2.size)⟩; clear b1; obtain ⟨y0, y1, y2, y3, y4⟩ := gb_cells X1.out.1)
 have U0 : Hid (BB (w1.alloc (.cells (madeCells #[.bool false] g.ls.length) 4)) w1.heap.size (usedL g.ls.length []) /\ Below w.heap.size w (w1.alloc (.cells (madeCells #[.bool false] g.ls.length) 4)) /\ w.heap.size <= w1.heap.size) := ⟨by rw [usedL_nil]; exact BB.made w1 _, X1.out.2.trans ((below_alloc _ _).mono X1.out.2.size), X1.out.2.size⟩
 clear y0 y1 y2 y3 y4 hmk
 generalize w1.alloc (.cells (madeCells #[.bool false] g.ls.length) 4) = W1 at *
 generalize w1.heap.size = ub at *
 go_loopw [25] (fun z wr => ∃ k : Nat, k <= l.length /\ z = .int .i64 k /\ BB wr ub (usedL g.ls.length (l.take k)) /\ Below w.heap.size w wr /\ (l.take k).all (usedB g.ls.length) = true) (fun z _ => l.length - (intOf z).toNat)
 case atStart => exact ⟨0, Nat.zero_le _, rfl, by rw [List.take_zero]; exact U0.out.1, U0.out.2.1, by simp⟩
 case round =>
  obtain ⟨k, hk, rfl, hB, hbel, hall⟩ := hrel
  have HU : Hid (w.heap.size <= ub) := U0.out.2.2
  clear U0
  by_cases hlt : k < l.length
  ·obtain ⟨rb, ro, hao, hrb, hrc⟩ := (HR.out wr hbel).cells (by intro e; rw [e] at hlt; simp at hlt)
   obtain ⟨c0, c1, c2, c3, c4, c5⟩ := hrc k hlt
   have klt : (k : Int) < (l.length : Int) := by omega
   have ET : l.take (k + 1) = l.take k ++ [l[k]] := List.take_succ_eq_append_getElem hlt
   have EA : (l.take (k + 1)).all (usedB g.ls.length) = usedB g.ls.length l[k] := by rw [ET, List.all_append, hall]; simp
   have EM : l[k] ∈ l := List.getElem_mem hlt
   have HN : Hid (usedB g.ls.length l[k] = false -> l.all (usedB g.ls.length) = false) := fun e => List.all_eq_false.2 ⟨_, EM, by rw [e]; simp⟩
   rw [hao]
   clear hrc EM hall
   generalize l[k] = x at *
   obtain ⟨⟨xl, xk, xp, xd, xs, xv⟩, xa, xc⟩ := x
   simp only at c0 c1 c2 c3 c4 c5
   have HB1 : Hid (BB (wr.alloc (.cells #[.int .i64 xl, .int .i64 xk, .int .i64 xp, .slice xa xd.length xc, .bool xs, .int .i64 xv] 47)) ub (usedL g.ls.length (l.take k)) /\ Below w.heap.size w (wr.alloc (.cells #[.int .i64 xl, .int .i64 xk, .int .i64 xp, .slice xa xd.length xc, .bool xs, .int .i64 xv] 47))) := ⟨hB.later (below_alloc _ _), hbel.trans ((below_alloc _ _).mono hbel.size)⟩
   by_cases a1 : xv < -1
   ·have HF : Hid (l.all (usedB g.ls.length) = false) := HN.out (by simp [usedB]; omega)
    clear HN ET EA
    go_wp2
    refine bodyPost_ret (v := .tuple #[.slice none 0 0, .int .i64 37]) (by simp [results, Try.results23, go_sem]) rfl ?_
    exact ⟨.inr ⟨HF.out, rfl⟩, HB1.out.2⟩
   ·by_cases a2 : (g.ls.length : Int) <= xv
    ·have HF : Hid (l.all (usedB g.ls.length) = false) := HN.out (by simp [usedB]; omega)
     clear HN ET EA
     go_wp2
     refine bodyPost_ret (v := .tuple #[.slice none 0 0, .int .i64 37]) (by simp [results, Try.results23, go_sem]) rfl ?_
     exact ⟨.inr ⟨HF.out, rfl⟩, HB1.out.2⟩
    ·have HA : Hid ((l.take (k + 1)).all (usedB g.ls.length) = true) := by show _ = _; rw [EA]; simp [usedB]; omega
     by_cases a3 : xv = -1
     ·subst a3
      have t3 : ((-1 : Int) != -1) = false := by decide
      have HB2 : Hid (usedL g.ls.length (l.take (k + 1)) = usedL g.ls.length (l.take k)) := by show _ = _; rw [ET]; exact usedL_none rfl
      clear HN ET EA
      go_wp2
      go_roundw
      case rel => exact ⟨k + 1, by omega, by go_num, by rw [HB2.out]; exact HB1.out.1, HB1.out.2, HA.out⟩
      case measure => simp [intOf]; omega
     ·obtain ⟨m, rfl⟩ : ∃ m : Nat, xv = (m : Int) := ⟨xv.toNat, by omega⟩
      have t3 : ((m : Int) != -1) = true := by simp
      have hm : m < g.ls.length := by omega
      have HB2 : Hid (usedL g.ls.length (l.take (k + 1)) = (usedL g.ls.length (l.take k)).set m true) := by show _ = _; rw [ET]; exact usedL_some rfl
      have ub0 := HB1.out.1.cell (i := m) (by rw [usedL_len]; exact hm)
      have ub1 := HB1.out.1.free m
      have ub2 := HB1.out.1.lt
      have HB3 : Hid (BB ((wr.alloc (.cells #[.int .i64 xl, .int .i64 xk, .int .i64 xp, .slice xa xd.length xc, .bool xs, .int .i64 (m : Int)] 47)).setCell ⟨ub, m, none⟩ (.bool true)) ub ((usedL g.ls.length (l.take k)).set m true) /\ Below w.heap.size w ((wr.alloc (.cells #[.int .i64 xl, .int .i64 xk, .int .i64 xp, .slice xa xd.length xc, .bool xs, .int .i64 (m : Int)] 47)).setCell ⟨ub, m, none⟩ (.bool true))) := ⟨HB1.out.1.set m true, HB1.out.2.setCell (p := ⟨ub, m, none⟩) HU.out _⟩
      clear HN ET EA
      go_wp2
      go_roundw
      case rel => exact ⟨k + 1, by omega, by go_num, by rw [HB2.out]; exact HB3.out.1, HB3.out.2, HA.out⟩
      case measure => simp [intOf]; omega
  ·obtain rfl : k = l.length := by omega
   rw [List.take_length] at hB hall
   have klt : ¬ (l.length : Int) < (l.length : Int) := by omega
   have HZ : Hid (BB wr ub (usedL g.ls.length l) /\ Below w.heap.size w wr /\ l.all (usedB g.ls.length) = true) := ⟨hB, hbel, hall⟩
   clear hB hbel hall
   go_wp2
   refine bodyPost_ret (v := .tuple #[.slice (some ⟨ub, 0, none⟩) g.ls.length g.ls.length, .int .i64 0]) (by simp [results, Try.results23, go_sem]) rfl ?_
   exact ⟨.inl ⟨HZ.out.2.2, ub, rfl, HZ.out.1, HU.out⟩, HZ.out.2.1⟩
set_option linter.unusedSimpArgs false in
theorem Used_no (g : GV) (ao : Option Addr) (n cap : Nat) (w : World) (h : GAt 140737488355328 w g) (hpc : g.ps.length <= g.pc) (er at_ : Int) (hE : checkG g (checkF g.ts g.ns) = (er, at_)) (h0 : er ≠ 0) :
  Calls Try.prog 23 #[g.val, .slice ao n cap] w fun e w' => e = .returned (.tuple #[.slice none 0 0, .int .i64 er]) /\ Below w.heap.size w w' := by
 have X0 : Hid (Below w.heap.size w (w.alloc (gBox g))) := below_alloc _ _
 have CK : Hid (∀ w', Below w.heap.size w w' -> Calls Try.prog 32 #[g.val] w' fun e w'' => e = .returned (.tuple #[.int .i64 er, .int .i64 at_]) /\ Below w'.heap.size w' w'') := fun w' hb => check_G g w' (h.later hb) hpc er at_ hE
 have t0 : (er != 0) = true := by simpa using h0
 clear h hE h0
 go_enter Try.func23, Try.ntmps23
 go_wp2_with (go_at_call 32; refine (CK.out _ X0.out).mono ?_; rintro e w1 ⟨rfl, b1⟩; have X1 : Hid (Below w.heap.size w w1) := X0.out.trans (b1.mono X0.out.size); clear b1)
 refine bodyPost_ret (v := .tuple #[.slice none 0 0, .int .i64 er]) (by simp [results, Try.results23, go_sem]) rfl ?_
 exact ⟨rfl, X1.out⟩
end Go.Proofs.Ytlkkllehaabebaa
namespace Go.Proofs.Ytlkkllehaabebaa
set_option linter.unusedVariables false
set_option maxRecDepth 100000
set_option maxHeartbeats 16000000
open Go.RowKit Go.Maps
set_option linter.unusedSimpArgs false in
theorem rUsed_P (g : GV) (ao : Option Addr) (cap : Nat) (l : List DM) (w : World) (hll : g.ls.length <= 32) (hl : l.length <= 140737488355328) (hr : DRow w ao l) :
  Calls Try.prog 24 #[g.val, .slice ao l.length cap] w (UsO g l w) := by
 have X0 : Hid ((w.alloc (gBox g)).heap[w.heap.size]? = some (gBox g) /\ Below w.heap.size w (w.alloc (gBox g))) := ⟨heap_alloc_new _ _, below_alloc _ _⟩
 have HR : Hid (∀ w', Below w.heap.size w w' -> DRow w' ao l) := fun w' hb => hr.later hb
 have hmk := make_boolF g.ls.length (by omega)
 clear hr
 go_enter Try.func24, Try.ntmps24
 go_wp2
 have U0 : Hid (BB ((w.alloc (gBox g)).alloc (.cells (madeCells #[.bool false] g.ls.length) 4)) (w.heap.size + 1) (usedL g.ls.length []) /\ Below w.heap.size w ((w.alloc (gBox g)).alloc (.cells (madeCells #[.bool false] g.ls.length) 4)) /\ ((w.alloc (gBox g)).alloc (.cells (madeCells #[.bool false] g.ls.length) 4)).heap[w.heap.size]? = some (gBox g)) := by
  have q := BB.made (w.alloc (gBox g)) g.ls.length
  rw [alZ] at q
  exact ⟨by rw [usedL_nil]; exact q, X0.out.2.trans ((below_alloc _ _).mono X0.out.2.size), blk_later X0.out.1 (below_alloc _ _)⟩
 clear hmk
 generalize (w.alloc (gBox g)).alloc (.cells (madeCells #[.bool false] g.ls.length) 4) = W1 at *
 obtain ⟨ub, hub⟩ : ∃ ub, ub = w.heap.size + 1 := ⟨_, rfl⟩
 rw [<- hub] at U0 ⊢
 have HUB : Hid (ub = w.heap.size + 1) := hub
 clear hub
 go_loopw [7] (fun z wr => ∃ k : Nat, k <= l.length /\ z = .int .i64 k /\ BB wr ub (usedL g.ls.length (l.take k)) /\ Below w.heap.size w wr /\ (l.take k).all (usedB g.ls.length) = true /\ wr.heap[w.heap.size]? = some (gBox g)) (fun z _ => l.length - (intOf z).toNat)
 case atStart => exact ⟨0, Nat.zero_le _, rfl, by rw [List.take_zero]; exact U0.out.1, U0.out.2.1, by simp, U0.out.2.2⟩
 case round =>
  clear U0 X0
  obtain ⟨k, hk, rfl, hB, hbel, hall, hgb⟩ := hrel
  by_cases hlt : k < l.length
  ·obtain ⟨wd, hwd⟩ : ∃ wd : World, wd = wr.drew := ⟨_, rfl⟩
   have SD : Hid (BB wd ub (usedL g.ls.length (l.take k)) /\ Below w.heap.size w wd /\ wd.heap[w.heap.size]? = some (gBox g)) := by rw [hwd]; exact ⟨hB, hbel.drew, hgb⟩
   obtain ⟨rb, ro, hao, hrb, hrc⟩ := (HR.out wd SD.out.2.1).cells (by intro e; rw [e] at hlt; simp at hlt)
   obtain ⟨c0, c1, c2, c3, c4, c5⟩ := hrc k hlt
   have klt : (k : Int) < (l.length : Int) := by omega
   have ET : l.take (k + 1) = l.take k ++ [l[k]] := List.take_succ_eq_append_getElem hlt
   have EA : (l.take (k + 1)).all (usedB g.ls.length) = usedB g.ls.length l[k] := by rw [ET, List.all_append, hall]; simp
   have EM : l[k] ∈ l := List.getElem_mem hlt
   have HN : Hid (usedB g.ls.length l[k] = false -> l.all (usedB g.ls.length) = false) := fun e => List.all_eq_false.2 ⟨_, EM, by rw [e]; simp⟩
   obtain ⟨y0, y1, y2, y3, y4⟩ := gb_cells SD.out.2.2
   rw [hao]
   clear hrc EM hall c0 c1 c2 c3 c4 hB hbel hgb
   generalize l[k] = x at *
   obtain ⟨⟨xl, xk, xp, xd, xs, xv⟩, xa, xc⟩ := x
   simp only at c5
   by_cases a1 : xv < -1
   ·have a1d : decide (xv < -1) = true := by simpa using a1
    have HF : Hid (l.all (usedB g.ls.length) = false) := HN.out (by simp [usedB]; omega)
    clear HN ET EA
    go_wp2
    refine wp_region_s (by kernel_rfl) (by kernel_rfl) wd hwd ?_
    clear hwd
    refine st_yes (v := ?_) (by rfl) ?_ ?_
    rotate_left
    ·(go_simp; with_reducible rfl)
    (try simp only [Act.put, lsA, lsZ, lsN])
    refine st_yes (v := ?_) (by rfl) ?_ ?_
    rotate_left
    ·(go_simp; with_reducible rfl)
    (try simp only [Act.put, lsA, lsZ, lsN])
    refine st_yes (v := ?_) (by rfl) ?_ ?_
    rotate_left
    ·(go_simp; with_reducible rfl)
    (try simp only [Act.put, lsA, lsZ, lsN])
    refine st_yes (v := ?_) (by rfl) ?_ ?_
    rotate_left
    ·(go_simp; with_reducible rfl)
    (try simp only [Act.put, lsA, lsZ, lsN])
    refine st_yes (v := ?_) (by rfl) ?_ ?_
    rotate_left
    ·(go_simp; with_reducible rfl)
    (try simp only [Act.put, lsA, lsZ, lsN])
    refine st_yes (v := ?_) (by rfl) ?_ ?_
    rotate_left
    ·(go_simp; with_reducible rfl)
    (try simp only [Act.put, lsA, lsZ, lsN])
    refine st_yes (v := ?_) (by rfl) ?_ ?_
    rotate_left
    ·(go_simp; with_reducible rfl)
    (try simp only [Act.put, lsA, lsZ, lsN])
    refine st_no (by rfl) ?_
    (try simp only [Act.put, lsA, lsZ, lsN])
    refine st_no (by rfl) ?_
    (try simp only [Act.put, lsA, lsZ, lsN])
    refine st_no (by rfl) ?_
    (try simp only [Act.put, lsA, lsZ, lsN])
    refine st_no (by rfl) ?_
    (try simp only [Act.put, lsA, lsZ, lsN])
    refine st_no (by rfl) ?_
    (try simp only [Act.put, lsA, lsZ, lsN])
    refine st_no (by rfl) ?_
    (try simp only [Act.put, lsA, lsZ, lsN])
    refine st_no (by rfl) ?_
    (try simp only [Act.put, lsA, lsZ, lsN])
    refine st_no (by rfl) ?_
    (try simp only [Act.put, lsA, lsZ, lsN])
    refine st_no (by rfl) ?_
    (try simp only [Act.put, lsA, lsZ, lsN])
    refine st_yes (v := ?_) (by rfl) ?_ ?_
    rotate_left
    ·(go_simp; with_reducible rfl)
    (try simp only [Act.put, lsA, lsZ, lsN])
    refine st_nil ?_
    go_wp2
    refine bodyPost_ret (v := .tuple #[.slice none 0 0, .int .i64 37]) (by simp [results, Try.results24, go_sem]) rfl ?_
    exact ⟨.inr ⟨HF.out, rfl⟩, SD.out.2.1⟩
   ·have a1d : decide (xv < -1) = false := by simpa using a1
    by_cases a2 : (g.ls.length : Int) <= xv
    ·have a2d : decide ((g.ls.length : Int) <= xv) = true := by simpa using a2
     have HF : Hid (l.all (usedB g.ls.length) = false) := HN.out (by simp [usedB]; omega)
     clear HN ET EA
     go_wp2
     refine wp_region_s (by kernel_rfl) (by kernel_rfl) wd hwd ?_
     clear hwd
     refine st_yes (v := ?_) (by rfl) ?_ ?_
     rotate_left
     ·(go_simp; with_reducible rfl)
     (try simp only [Act.put, lsA, lsZ, lsN])
     refine st_yes (v := ?_) (by rfl) ?_ ?_
     rotate_left
     ·(go_simp; with_reducible rfl)
     (try simp only [Act.put, lsA, lsZ, lsN])
     refine st_yes (v := ?_) (by rfl) ?_ ?_
     rotate_left
     ·(go_simp; with_reducible rfl)
     (try simp only [Act.put, lsA, lsZ, lsN])
     refine st_yes (v := ?_) (by rfl) ?_ ?_
     rotate_left
     ·(go_simp; with_reducible rfl)
     (try simp only [Act.put, lsA, lsZ, lsN])
     refine st_yes (v := ?_) (by rfl) ?_ ?_
     rotate_left
     ·(go_simp; with_reducible rfl)
     (try simp only [Act.put, lsA, lsZ, lsN])
     refine st_yes (v := ?_) (by rfl) ?_ ?_
     rotate_left
     ·(go_simp; with_reducible rfl)
     (try simp only [Act.put, lsA, lsZ, lsN])
     refine st_yes (v := ?_) (by rfl) ?_ ?_
     rotate_left
     ·(go_simp; with_reducible rfl)
     (try simp only [Act.put, lsA, lsZ, lsN])
     refine st_yes (v := ?_) (by rfl) ?_ ?_
     rotate_left
     ·(go_simp; with_reducible rfl)
     (try simp only [Act.put, lsA, lsZ, lsN])
     refine st_yes (v := ?_) (by rfl) ?_ ?_
     rotate_left
     ·(go_simp; with_reducible rfl)
     (try simp only [Act.put, lsA, lsZ, lsN])
     refine st_yes (v := ?_) (by rfl) ?_ ?_
     rotate_left
     ·(go_simp; with_reducible rfl)
     (try simp only [Act.put, lsA, lsZ, lsN])
     refine st_yes (v := ?_) (by rfl) ?_ ?_
     rotate_left
     ·(go_simp; with_reducible rfl)
     (try simp only [Act.put, lsA, lsZ, lsN])
     refine st_yes (v := ?_) (by rfl) ?_ ?_
     rotate_left
     ·(go_simp; with_reducible rfl)
     (try simp only [Act.put, lsA, lsZ, lsN])
     refine st_yes (v := ?_) (by rfl) ?_ ?_
     rotate_left
     ·(go_simp; with_reducible rfl)
     (try simp only [Act.put, lsA, lsZ, lsN])
     refine st_yes (v := ?_) (by rfl) ?_ ?_
     rotate_left
     ·(go_simp; with_reducible rfl)
     (try simp only [Act.put, lsA, lsZ, lsN])
     refine st_yes (v := ?_) (by rfl) ?_ ?_
     rotate_left
     ·(go_simp; with_reducible rfl)
     (try simp only [Act.put, lsA, lsZ, lsN])
     refine st_yes (v := ?_) (by rfl) ?_ ?_
     rotate_left
     ·(go_simp; with_reducible rfl)
     (try simp only [Act.put, lsA, lsZ, lsN])
     refine st_yes (v := ?_) (by rfl) ?_ ?_
     rotate_left
     ·(go_simp; with_reducible rfl)
     (try simp only [Act.put, lsA, lsZ, lsN])
     refine st_nil ?_
     go_wp2
     refine bodyPost_ret (v := .tuple #[.slice none 0 0, .int .i64 37]) (by simp [results, Try.results24, go_sem]) rfl ?_
     exact ⟨.inr ⟨HF.out, rfl⟩, SD.out.2.1⟩
    ·have a2d : decide ((g.ls.length : Int) <= xv) = false := by simpa using a2
     have HA : Hid ((l.take (k + 1)).all (usedB g.ls.length) = true) := by show _ = _; rw [EA]; simp [usedB]; omega
     by_cases a3 : xv = -1
     ·subst a3
      have HB2 : Hid (usedL g.ls.length (l.take (k + 1)) = usedL g.ls.length (l.take k)) := by show _ = _; rw [ET]; exact usedL_none rfl
      clear HN ET EA
      go_wp2
      refine wp_region_s (by kernel_rfl) (by kernel_rfl) wd hwd ?_
      clear hwd
      refine st_yes (v := ?_) (by rfl) ?_ ?_
      rotate_left
      ·(go_simp; with_reducible rfl)
      (try simp only [Act.put, lsA, lsZ, lsN])
      refine st_yes (v := ?_) (by rfl) ?_ ?_
      rotate_left
      ·(go_simp; with_reducible rfl)
      (try simp only [Act.put, lsA, lsZ, lsN])
      refine st_yes (v := ?_) (by rfl) ?_ ?_
      rotate_left
      ·(go_simp; with_reducible rfl)
      (try simp only [Act.put, lsA, lsZ, lsN])
      refine st_yes (v := ?_) (by rfl) ?_ ?_
      rotate_left
      ·(go_simp; with_reducible rfl)
      (try simp only [Act.put, lsA, lsZ, lsN])
      refine st_yes (v := ?_) (by rfl) ?_ ?_
      rotate_left
      ·(go_simp; with_reducible rfl)
      (try simp only [Act.put, lsA, lsZ, lsN])
      refine st_yes (v := ?_) (by rfl) ?_ ?_
      rotate_left
      ·(go_simp; with_reducible rfl)
      (try simp only [Act.put, lsA, lsZ, lsN])
      refine st_yes (v := ?_) (by rfl) ?_ ?_
      rotate_left
      ·(go_simp; with_reducible rfl)
      (try simp only [Act.put, lsA, lsZ, lsN])
      refine st_yes (v := ?_) (by rfl) ?_ ?_
      rotate_left
      ·(go_simp; with_reducible rfl)
      (try simp only [Act.put, lsA, lsZ, lsN])
      refine st_yes (v := ?_) (by rfl) ?_ ?_
      rotate_left
      ·(go_simp; with_reducible rfl)
      (try simp only [Act.put, lsA, lsZ, lsN])
      refine st_yes (v := ?_) (by rfl) ?_ ?_
      rotate_left
      ·(go_simp; with_reducible rfl)
      (try simp only [Act.put, lsA, lsZ, lsN])
      refine st_yes (v := ?_) (by rfl) ?_ ?_
      rotate_left
      ·(go_simp; with_reducible rfl)
      (try simp only [Act.put, lsA, lsZ, lsN])
      refine st_yes (v := ?_) (by rfl) ?_ ?_
      rotate_left
      ·(go_simp; with_reducible rfl)
      (try simp only [Act.put, lsA, lsZ, lsN])
      refine st_yes (v := ?_) (by rfl) ?_ ?_
      rotate_left
      ·(go_simp; with_reducible rfl)
      (try simp only [Act.put, lsA, lsZ, lsN])
      refine st_yes (v := ?_) (by rfl) ?_ ?_
      rotate_left
      ·(go_simp; with_reducible rfl)
      (try simp only [Act.put, lsA, lsZ, lsN])
      refine st_yes (v := ?_) (by rfl) ?_ ?_
      rotate_left
      ·(go_simp; with_reducible rfl)
      (try simp only [Act.put, lsA, lsZ, lsN])
      refine st_yes (v := ?_) (by rfl) ?_ ?_
      rotate_left
      ·(go_simp; with_reducible rfl)
      (try simp only [Act.put, lsA, lsZ, lsN])
      refine st_yes (v := ?_) (by rfl) ?_ ?_
      rotate_left
      ·(go_simp; with_reducible rfl)
      (try simp only [Act.put, lsA, lsZ, lsN])
      refine st_nil ?_
      go_wp2
      go_roundw
      case rel => exact ⟨k + 1, by omega, by go_num, by rw [HB2.out]; exact SD.out.1, SD.out.2.1, HA.out, SD.out.2.2⟩
      case measure => simp [intOf]; omega
     ·obtain ⟨m, rfl⟩ : ∃ m : Nat, xv = (m : Int) := ⟨xv.toNat, by omega⟩
      have hm : m < g.ls.length := by omega
      have HB2 : Hid (usedL g.ls.length (l.take (k + 1)) = (usedL g.ls.length (l.take k)).set m true) := by show _ = _; rw [ET]; exact usedL_some rfl
      have ub0 := SD.out.1.cell (i := m) (by rw [usedL_len]; exact hm)
      have ub1 := SD.out.1.free m
      have ub2 := SD.out.1.lt
      have HB3 : Hid (BB (wd.setCell ⟨ub, m, none⟩ (.bool true)) ub ((usedL g.ls.length (l.take k)).set m true) /\ Below w.heap.size w (wd.setCell ⟨ub, m, none⟩ (.bool true)) /\ (wd.setCell ⟨ub, m, none⟩ (.bool true)).heap[w.heap.size]? = some (gBox g)) := ⟨SD.out.1.set m true, SD.out.2.1.setCell (p := ⟨ub, m, none⟩) (by show w.heap.size <= ub; have := HUB.out; omega) _, (setj_ne (by have := HUB.out; omega)).trans SD.out.2.2⟩
      clear HN ET EA
      go_wp2
      refine wp_region_s (by kernel_rfl) (by kernel_rfl) wd hwd ?_
      clear hwd
      refine st_yes (v := ?_) (by rfl) ?_ ?_
      rotate_left
      ·(go_simp; with_reducible rfl)
      (try simp only [Act.put, lsA, lsZ, lsN])
      refine st_yes (v := ?_) (by rfl) ?_ ?_
      rotate_left
      ·(go_simp; with_reducible rfl)
      (try simp only [Act.put, lsA, lsZ, lsN])
      refine st_yes (v := ?_) (by rfl) ?_ ?_
      rotate_left
      ·(go_simp; with_reducible rfl)
      (try simp only [Act.put, lsA, lsZ, lsN])
      refine st_yes (v := ?_) (by rfl) ?_ ?_
      rotate_left
      ·(go_simp; with_reducible rfl)
      (try simp only [Act.put, lsA, lsZ, lsN])
      refine st_yes (v := ?_) (by rfl) ?_ ?_
      rotate_left
      ·(go_simp; with_reducible rfl)
      (try simp only [Act.put, lsA, lsZ, lsN])
      refine st_yes (v := ?_) (by rfl) ?_ ?_
      rotate_left
      ·(go_simp; with_reducible rfl)
      (try simp only [Act.put, lsA, lsZ, lsN])
      refine st_yes (v := ?_) (by rfl) ?_ ?_
      rotate_left
      ·(go_simp; with_reducible rfl)
      (try simp only [Act.put, lsA, lsZ, lsN])
      refine st_yes (v := ?_) (by rfl) ?_ ?_
      rotate_left
      ·(go_simp; with_reducible rfl)
      (try simp only [Act.put, lsA, lsZ, lsN])
      refine st_yes (v := ?_) (by rfl) ?_ ?_
      rotate_left
      ·(go_simp; with_reducible rfl)
      (try simp only [Act.put, lsA, lsZ, lsN])
      refine st_yes (v := ?_) (by rfl) ?_ ?_
      rotate_left
      ·(go_simp; with_reducible rfl)
      (try simp only [Act.put, lsA, lsZ, lsN])
      refine st_yes (v := ?_) (by rfl) ?_ ?_
      rotate_left
      ·(go_simp; with_reducible rfl)
      (try simp only [Act.put, lsA, lsZ, lsN])
      refine st_yes (v := ?_) (by rfl) ?_ ?_
      rotate_left
      ·(go_simp; with_reducible rfl)
      (try simp only [Act.put, lsA, lsZ, lsN])
      refine st_yes (v := ?_) (by rfl) ?_ ?_
      rotate_left
      ·(go_simp; with_reducible rfl)
      (try simp only [Act.put, lsA, lsZ, lsN])
      refine st_yes (v := ?_) (by rfl) ?_ ?_
      rotate_left
      ·(go_simp; with_reducible rfl)
      (try simp only [Act.put, lsA, lsZ, lsN])
      refine st_yes (v := ?_) (by rfl) ?_ ?_
      rotate_left
      ·(go_simp; with_reducible rfl)
      (try simp only [Act.put, lsA, lsZ, lsN])
      refine st_yes (v := ?_) (by rfl) ?_ ?_
      rotate_left
      ·(go_simp; with_reducible rfl)
      (try simp only [Act.put, lsA, lsZ, lsN])
      refine st_yes (v := ?_) (by rfl) ?_ ?_
      rotate_left
      ·(go_simp; with_reducible rfl)
      (try simp only [Act.put, lsA, lsZ, lsN])
      refine st_nil ?_
      go_wp2
      go_roundw
      case rel => exact ⟨k + 1, by omega, by go_num, by rw [HB2.out]; exact HB3.out.1, HB3.out.2.1, HA.out, HB3.out.2.2⟩
      case measure => simp [intOf]; omega
  ·obtain rfl : k = l.length := by omega
   rw [List.take_length] at hB hall
   have klt : ¬ (l.length : Int) < (l.length : Int) := by omega
   have HZ : Hid (BB wr ub (usedL g.ls.length l) /\ Below w.heap.size w wr /\ l.all (usedB g.ls.length) = true) := ⟨hB, hbel, hall⟩
   clear hB hbel hall hgb
   go_wp2
   refine bodyPost_ret (v := .tuple #[.slice (some ⟨ub, 0, none⟩) g.ls.length g.ls.length, .int .i64 0]) (by simp [results, Try.results24, go_sem]) rfl ?_
   exact ⟨.inl ⟨HZ.out.2.2, ub, rfl, HZ.out.1, by have := HUB.out; omega⟩, HZ.out.2.1⟩
set_option linter.unusedSimpArgs false in
theorem all_P (ao bo : Option Addr) (ca cb : Nat) (l m : List DM) (w : World) (hl : l.length <= 140737488355328) (hlm : l.map DM.d = m.map DM.d) (hd : ∀ x ∈ l, x.d.drop.length <= 140737488355328) (h1 : DRow w ao l) (h2 : DRow w bo m) :
  Calls Try.prog 26 #[.slice ao l.length ca, .slice bo m.length cb] w fun e w' => e = .returned (.bool true) /\ Below w.heap.size w w' := by
 have hlen : l.length = m.length := by have := congrArg List.length hlm; simpa using this
 have H1 : Hid (∀ w', Below w.heap.size w w' -> DRow w' ao l /\ DRow w' bo m) := fun w' hb => ⟨h1.later hb, h2.later hb⟩
 have HDL : Hid (∀ x ∈ l, x.d.drop.length <= 140737488355328) := hd
 have HLM : Hid (l.map DM.d = m.map DM.d) := hlm
 rw [<- hlen]
 have HLE : Hid (l.length = m.length) := hlen
 clear hlen
 have t0 : ((l.length : Int) != (l.length : Int)) = false := by simp
 clear h1 h2 hlm hd
 go_enter Try.func26, Try.ntmps26
 go_wp2
 go_loopw [5] (fun z wr => ∃ k : Nat, k <= l.length /\ z = .int .i64 k /\ Below w.heap.size w wr) (fun z _ => l.length - (intOf z).toNat)
 case atStart => exact ⟨0, Nat.zero_le _, rfl, Below.refl _ _⟩
 case round =>
  obtain ⟨k, hk, rfl, hbel⟩ := hrel
  by_cases hlt : k < l.length
  ·obtain ⟨wd, hwd⟩ : ∃ wd : World, wd = wr.drew := ⟨_, rfl⟩
   have SD : Hid (Below w.heap.size w wd) := by rw [hwd]; exact hbel.drew
   have hlt2 : k < m.length := by have := HLE.out; omega
   obtain ⟨q1, q2⟩ := H1.out wd SD.out
   obtain ⟨rb, ro, hao, hrb, hrc⟩ := q1.cells (by intro e; rw [e] at hlt; simp at hlt)
   obtain ⟨sb, so, hbo, hsb, hsc⟩ := q2.cells (by intro e; rw [e] at hlt2; simp at hlt2)
   obtain ⟨c0, c1, c2, c3, c4, c5⟩ := hrc k hlt
   obtain ⟨d0, d1, d2, d3, d4, d5⟩ := hsc k hlt2
   have klt : (k : Int) < (l.length : Int) := by omega
   have ED : m[k].d = l[k].d := by
    have e : (l.map DM.d)[k]? = (m.map DM.d)[k]? := by rw [HLM.out]
    simp only [List.getElem?_map, List.getElem?_eq_getElem hlt, List.getElem?_eq_getElem hlt2, Option.map_some, Option.some.injEq] at e
    exact e.symm
   have R1 := q1.rows _ (List.getElem_mem hlt)
   have R2 := q2.rows _ (List.getElem_mem hlt2)
   have HL1 := HDL.out _ (List.getElem_mem hlt)
   rw [ED] at d0 d1 d2 d3 d4 d5 R2
   have SM : Hid (Calls Try.prog 17 #[dval l[k].d l[k].ao l[k].c, dval l[k].d m[k].ao m[k].c] wd fun e' w' => e' = .returned (.bool true) /\ Below wd.heap.size wd w') := same_P l[k].d l[k].ao m[k].ao l[k].c m[k].c wd HL1 R1 R2
   rw [hao, hbo]
   clear hrc hsc q1 q2 R1 R2 HL1 ED hbel
   generalize l[k] = x at *
   generalize m[k] = y at *
   obtain ⟨⟨xl, xk, xp, xd, xs, xv⟩, xa, xc⟩ := x
   obtain ⟨yd, ya, yc⟩ := y
   simp only at c0 c1 c2 c3 c4 c5 d0 d1 d2 d3 d4 d5 SM
   go_wp2
   refine wp_region_tail_s 8 (by kernel_rfl) (by kernel_rfl) wd hwd ?_
   clear hwd
   simp only [List.take_succ_cons, List.take_zero, List.drop_succ_cons, List.drop_zero]
   refine st_yes (v := ?_) (by rfl) ?_ ?_
   rotate_left
   ·(go_simp; with_reducible rfl)
   (try simp only [Act.put, lsA, lsZ, lsN])
   refine st_yes (v := ?_) (by rfl) ?_ ?_
   rotate_left
   ·(go_simp; with_reducible rfl)
   (try simp only [Act.put, lsA, lsZ, lsN])
   refine st_yes (v := ?_) (by rfl) ?_ ?_
   rotate_left
   ·(go_simp; with_reducible rfl)
   (try simp only [Act.put, lsA, lsZ, lsN])
   refine st_yes (v := ?_) (by rfl) ?_ ?_
   rotate_left
   ·(go_simp; with_reducible rfl)
   (try simp only [Act.put, lsA, lsZ, lsN])
   refine st_yes (v := ?_) (by rfl) ?_ ?_
   rotate_left
   ·(go_simp; with_reducible rfl)
   (try simp only [Act.put, lsA, lsZ, lsN])
   refine st_yes (v := ?_) (by rfl) ?_ ?_
   rotate_left
   ·(go_simp; with_reducible rfl)
   (try simp only [Act.put, lsA, lsZ, lsN])
   refine st_yes (v := ?_) (by rfl) ?_ ?_
   rotate_left
   ·(go_simp; with_reducible rfl)
   (try simp only [Act.put, lsA, lsZ, lsN])
   refine st_yes (v := ?_) (by rfl) ?_ ?_
   rotate_left
   ·(go_simp; with_reducible rfl)
   (try simp only [Act.put, lsA, lsZ, lsN])
   refine st_nil ?_
   go_wp2_with (go_at_call 17; refine SM.out.mono ?_; rintro e w4 ⟨rfl, b4⟩; have SE : Hid (Below w.heap.size w w4) := SD.out.trans (b4.mono SD.out.size); clear b4)
   go_roundw
   case rel => exact ⟨k + 1, by omega, by go_num, SE.out⟩
   case measure => simp [intOf]; omega
  ·have klt : ¬ (k : Int) < (l.length : Int) := by omega
   go_wp2
   go_ret
   exact ⟨rfl, hbel⟩
end Go.Proofs.Ytlkkllehaabebaa
