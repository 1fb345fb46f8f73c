import Derived.Test.YtlkkllehaabebaaPPC25ToPC27
import Derived.Test.YtlkkllehaabebaaPPC12ToPC13
import Derived.Test.YtlkkllehaabebaaPPC16ToPC17
import Derived.Test.YtlkkllehaabebaaPFThyToFSame
namespace Go.Proofs.Ytlkkllehaabebaa
set_option linter.unusedVariables false
set_option maxRecDepth 100000
set_option maxHeartbeats 16000000
open Go.RowKit Go.Maps
structure DRow (w : World) (ao : Option Addr) (l : List DM) : Prop where
 cells : l ≠ [] -> ∃ b off, ao = some ⟨b, off, none⟩ /\ b < w.heap.size /\ ∀ i (hi : i < l.length), w.cell? ⟨b, off + i * 6, none⟩ = some (.int .i64 l[i].d.look) /\ w.cell? ⟨b, off + i * 6 + 1, none⟩ = some (.int .i64 l[i].d.kind) /\ w.cell? ⟨b, off + i * 6 + 2, none⟩ = some (.int .i64 l[i].d.prod) /\ w.cell? ⟨b, off + i * 6 + 3, none⟩ = some (.slice l[i].ao l[i].d.drop.length l[i].c) /\ w.cell? ⟨b, off + i * 6 + 4, none⟩ = some (.bool l[i].d.sd) /\ w.cell? ⟨b, off + i * 6 + 5, none⟩ = some (.int .i64 l[i].d.lev)
 rows : ∀ x ∈ l, InRow w x.ao x.d.drop
theorem DRow.later {w w' : World} {ao : Option Addr} {l : List DM} (h : DRow w ao l) (hb : Below w.heap.size w w') : DRow w' ao l := by
 refine ⟨fun hne => ?_, fun x hx => (h.rows x hx).later hb⟩
 obtain ⟨b, off, rfl, hl, hc⟩ := h.cells hne
 have e : ∀ j, w'.cell? ⟨b, j, none⟩ = w.cell? ⟨b, j, none⟩ := fun j => hb.cell (p := ⟨b, j, none⟩) hl
 refine ⟨b, off, rfl, Nat.lt_of_lt_of_le hl hb.size, fun i hi => ?_⟩
 rw [e, e, e, e, e, e]
 exact hc i hi
def usedB (n : Nat) (x : DM) : Bool := decide (-1 <= x.d.lev /\ x.d.lev < n)
def usedL (n : Nat) (l : List DM) : List Bool := (List.range n).map fun i : Nat => l.any fun x => decide (x.d.lev = (i : Int))
theorem usedL_len (n : Nat) (l : List DM) : (usedL n l).length = n := by simp [usedL]
theorem usedL_nil (n : Nat) : usedL n [] = List.replicate n false := by
 apply List.ext_getElem
 ·simp [usedL]
 ·intro i h1 h2
  simp [usedL]
theorem usedL_none {n : Nat} {l : List DM} {x : DM} (h : x.d.lev = -1) : usedL n (l ++ [x]) = usedL n l := by
 unfold usedL
 apply List.map_congr_left
 intro i _
 rw [List.any_append]
 have : ¬ x.d.lev = (i : Int) := by omega
 simp [this]
theorem usedL_some {n : Nat} {l : List DM} {x : DM} {k : Nat} (h : x.d.lev = (k : Int)) : usedL n (l ++ [x]) = (usedL n l).set k true := by
 apply List.ext_getElem
 ·simp [usedL]
 ·intro i h1 h2
  rw [List.getElem_set]
  simp only [usedL, List.getElem_map, List.getElem_range, List.any_append]
  by_cases e : k = i
  ·subst e; simp [h]
  ·rw [if_neg e]
   have : ¬ x.d.lev = (i : Int) := by omega
   simp [this]
def UsO (g : GV) (l : List DM) (w : World) (e : Ending) (w' : World) : Prop := ((l.all (usedB g.ls.length) = true /\ ∃ b, e = .returned (.tuple #[.slice (some ⟨b, 0, none⟩) g.ls.length g.ls.length, .int .i64 0]) /\ BB w' b (usedL g.ls.length l) /\ w.heap.size <= b) ∨ (l.all (usedB g.ls.length) = false /\ e = .returned (.tuple #[.slice none 0 0, .int .i64 37]))) /\ Below w.heap.size w w'
set_option linter.unusedSimpArgs false in
theorem Used_ok (g : GV) (ao : Option Addr) (cap : Nat) (l : List DM) (w : World) (h : GAt 140737488355328 w g) (hpc : g.ps.length <= g.pc) (at_ : Int) (hE : checkG g (checkF g.ts g.ns) = (0, at_)) (hl : l.length <= 140737488355328) (hr : DRow w ao l) :
  Calls Try.prog 23 #[g.val, .slice ao l.length cap] w (UsO g l w) := by
 have X0 : Hid ((w.alloc (gBox g)).heap[w.heap.size]? = some (gBox g) /\ Below w.heap.size w (w.alloc (gBox g))) := ⟨heap_alloc_new _ _, below_alloc _ _⟩
 have CK : Hid (∀ w', Below w.heap.size w w' -> Calls Try.prog 32 #[g.val] w' fun e w'' => e = .returned (.tuple #[.int .i64 0, .int .i64 at_]) /\ Below w'.heap.size w' w'') := fun w' hb => check_G g w' (h.later hb) hpc 0 at_ hE
 have ok : OkC g := OkC.of (by rw [hE])
 have hll := ok.ll
 have HR : Hid (∀ w', Below w.heap.size w w' -> DRow w' ao l) := fun w' hb => hr.later hb
 have t0 : ((0 : Int) != 0) = false := by decide
 have hmk := make_boolF g.ls.length (by omega)
 clear h hE hr ok
 go_enter Try.func23, Try.ntmps23
 go_wp2_with (go_at_call 32; refine (CK.out _ X0.out.2).mono ?_; rintro e w1 ⟨rfl, b1⟩; have X1 : Hid (w1.heap[w.heap.size]? = some (gBox g) /\ Below w.heap.size w w1) := ⟨blk_later X0.out.1 b1, X0.out.2.trans (b1.mono X0.out.2.size)⟩; clear b1; obtain ⟨y0, y1, y2, y3, y4⟩ := gb_cells X1.out.1)
 have U0 : Hid (BB (w1.alloc (.cells (madeCells #[.bool false] g.ls.length) 4)) w1.heap.size (usedL g.ls.length []) /\ Below w.heap.size w (w1.alloc (.cells (madeCells #[.bool false] g.ls.length) 4)) /\ w.heap.size <= w1.heap.size) := ⟨by rw [usedL_nil]; exact BB.made w1 _, X1.out.2.trans ((below_alloc _ _).mono X1.out.2.size), X1.out.2.size⟩
 clear y0 y1 y2 y3 y4 hmk
 generalize w1.alloc (.cells (madeCells #[.bool false] g.ls.length) 4) = W1 at *
 generalize w1.heap.size = ub at *
 go_loopw [25] (fun z wr => ∃ k : Nat, k <= l.length /\ z = .int .i64 k /\ BB wr ub (usedL g.ls.length (l.take k)) /\ Below w.heap.size w wr /\ (l.take k).all (usedB g.ls.length) = true) (fun z _ => l.length - (intOf z).toNat)
 case atStart => exact ⟨0, Nat.zero_le _, rfl, by rw [List.take_zero]; exact U0.out.1, U0.out.2.1, by simp⟩
 case round =>
  obtain ⟨k, hk, rfl, hB, hbel, hall⟩ := hrel
  have HU : Hid (w.heap.size <= ub) := U0.out.2.2
  clear U0
  by_cases hlt : k < l.length
  ·obtain ⟨rb, ro, hao, hrb, hrc⟩ := (HR.out wr hbel).cells (by intro e; rw [e] at hlt; simp at hlt)
   obtain ⟨c0, c1, c2, c3, c4, c5⟩ := hrc k hlt
   have klt : (k : Int) < (l.length : Int) := by omega
   have ET : l.take (k + 1) = l.take k ++ [l[k]] := List.take_succ_eq_append_getElem hlt
   have EA : (l.take (k + 1)).all (usedB g.ls.length) = usedB g.ls.length l[k] := by rw [ET, List.all_append, hall]; simp
   have EM : l[k] ∈ l := List.getElem_mem hlt
   have HN : Hid (usedB g.ls.length l[k] = false -> l.all (usedB g.ls.length) = false) := fun e => List.all_eq_false.2 ⟨_, EM, by rw [e]; simp⟩
   rw [hao]
   clear hrc EM hall
   generalize l[k] = x at *
   obtain ⟨⟨xl, xk, xp, xd, xs, xv⟩, xa, xc⟩ := x
   simp only at c0 c1 c2 c3 c4 c5
   have HB1 : Hid (BB (wr.alloc (.cells #[.int .i64 xl, .int .i64 xk, .int .i64 xp, .slice xa xd.length xc, .bool xs, .int .i64 xv] 47)) ub (usedL g.ls.length (l.take k)) /\ Below w.heap.size w (wr.alloc (.cells #[.int .i64 xl, .int .i64 xk, .int .i64 xp, .slice xa xd.length xc, .bool xs, .int .i64 xv] 47))) := ⟨hB.later (below_alloc _ _), hbel.trans ((below_alloc _ _).mono hbel.size)⟩
   by_cases a1 : xv < -1
   ·have HF : Hid (l.all (usedB g.ls.length) = false) := HN.out (by simp [usedB]; omega)
    clear HN ET EA
    go_wp2
    refine bodyPost_ret (v := .tuple #[.slice none 0 0, .int .i64 37]) (by simp [results, Try.results23, go_sem]) rfl ?_
    exact ⟨.inr ⟨HF.out, rfl⟩, HB1.out.2⟩
   ·by_cases a2 : (g.ls.length : Int) <= xv
    ·have HF : Hid (l.all (usedB g.ls.length) = false) := HN.out (by simp [usedB]; omega)
     clear HN ET EA
     go_wp2
     refine bodyPost_ret (v := .tuple #[.slice none 0 0, .int .i64 37]) (by simp [results, Try.results23, go_sem]) rfl ?_
     exact ⟨.inr ⟨HF.out, rfl⟩, HB1.out.2⟩
    ·have HA : Hid ((l.take (k + 1)).all (usedB g.ls.length) = true) := by show _ = _; rw [EA]; simp [usedB]; omega
     by_cases a3 : xv = -1
     ·subst a3
      have t3 : ((-1 : Int) != -1) = false := by decide
      have HB2 : Hid (usedL g.ls.length (l.take (k + 1)) = usedL g.ls.length (l.take k)) := by show _ = _; rw [ET]; exact usedL_none rfl
      clear HN ET EA
      go_wp2
      go_roundw
      case rel => exact ⟨k + 1, by omega, by go_num, by rw [HB2.out]; exact HB1.out.1, HB1.out.2, HA.out⟩
      case measure => simp [intOf]; omega
     ·obtain ⟨m, rfl⟩ : ∃ m : Nat, xv = (m : Int) := ⟨xv.toNat, by omega⟩
      have t3 : ((m : Int) != -1) = true := by simp
      have hm : m < g.ls.length := by omega
      have HB2 : Hid (usedL g.ls.length (l.take (k + 1)) = (usedL g.ls.length (l.take k)).set m true) := by show _ = _; rw [ET]; exact usedL_some rfl
      have ub0 := HB1.out.1.cell (i := m) (by rw [usedL_len]; exact hm)
      have ub1 := HB1.out.1.free m
      have ub2 := HB1.out.1.lt
      have HB3 : Hid (BB ((wr.alloc (.cells #[.int .i64 xl, .int .i64 xk, .int .i64 xp, .slice xa xd.length xc, .bool xs, .int .i64 (m : Int)] 47)).setCell ⟨ub, m, none⟩ (.bool true)) ub ((usedL g.ls.length (l.take k)).set m true) /\ Below w.heap.size w ((wr.alloc (.cells #[.int .i64 xl, .int .i64 xk, .int .i64 xp, .slice xa xd.length xc, .bool xs, .int .i64 (m : Int)] 47)).setCell ⟨ub, m, none⟩ (.bool true))) := ⟨HB1.out.1.set m true, HB1.out.2.setCell (p := ⟨ub, m, none⟩) HU.out _⟩
      clear HN ET EA
      go_wp2
      go_roundw
      case rel => exact ⟨k + 1, by omega, by go_num, by rw [HB2.out]; exact HB3.out.1, HB3.out.2, HA.out⟩
      case measure => simp [intOf]; omega
  ·obtain rfl : k = l.length := by omega
   rw [List.take_length] at hB hall
   have klt : ¬ (l.length : Int) < (l.length : Int) := by omega
   have HZ : Hid (BB wr ub (usedL g.ls.length l) /\ Below w.heap.size w wr /\ l.all (usedB g.ls.length) = true) := ⟨hB, hbel, hall⟩
   clear hB hbel hall
   go_wp2
   refine bodyPost_ret (v := .tuple #[.slice (some ⟨ub, 0, none⟩) g.ls.length g.ls.length, .int .i64 0]) (by simp [results, Try.results23, go_sem]) rfl ?_
   exact ⟨.inl ⟨HZ.out.2.2, ub, rfl, HZ.out.1, HU.out⟩, HZ.out.2.1⟩
set_option linter.unusedSimpArgs false in
theorem Used_no (g : GV) (ao : Option Addr) (n cap : Nat) (w : World) (h : GAt 140737488355328 w g) (hpc : g.ps.length <= g.pc) (er at_ : Int) (hE : checkG g (checkF g.ts g.ns) = (er, at_)) (h0 : er ≠ 0) :
  Calls Try.prog 23 #[g.val, .slice ao n cap] w fun e w' => e = .returned (.tuple #[.slice none 0 0, .int .i64 er]) /\ Below w.heap.size w w' := by
 have X0 : Hid (Below w.heap.size w (w.alloc (gBox g))) := below_alloc _ _
 have CK : Hid (∀ w', Below w.heap.size w w' -> Calls Try.prog 32 #[g.val] w' fun e w'' => e = .returned (.tuple #[.int .i64 er, .int .i64 at_]) /\ Below w'.heap.size w' w'') := fun w' hb => check_G g w' (h.later hb) hpc er at_ hE
 have t0 : (er != 0) = true := by simpa using h0
 clear h hE h0
 go_enter Try.func23, Try.ntmps23
 go_wp2_with (go_at_call 32; refine (CK.out _ X0.out).mono ?_; rintro e w1 ⟨rfl, b1⟩; have X1 : Hid (Below w.heap.size w w1) := X0.out.trans (b1.mono X0.out.size); clear b1)
 refine bodyPost_ret (v := .tuple #[.slice none 0 0, .int .i64 er]) (by simp [results, Try.results23, go_sem]) rfl ?_
 exact ⟨rfl, X1.out⟩
end Go.Proofs.Ytlkkllehaabebaa
namespace Go.Proofs.Ytlkkllehaabebaa
set_option linter.unusedVariables false
set_option maxRecDepth 100000
set_option maxHeartbeats 16000000
open Go.RowKit Go.Maps
set_option linter.unusedSimpArgs false in
theorem rUsed_P (g : GV) (ao : Option Addr) (cap : Nat) (l : List DM) (w : World) (hll : g.ls.length <= 32) (hl : l.length <= 140737488355328) (hr : DRow w ao l) :
  Calls Try.prog 24 #[g.val, .slice ao l.length cap] w (UsO g l w) := by
 have X0 : Hid ((w.alloc (gBox g)).heap[w.heap.size]? = some (gBox g) /\ Below w.heap.size w (w.alloc (gBox g))) := ⟨heap_alloc_new _ _, below_alloc _ _⟩
 have HR : Hid (∀ w', Below w.heap.size w w' -> DRow w' ao l) := fun w' hb => hr.later hb
 have hmk := make_boolF g.ls.length (by omega)
 clear hr
 go_enter Try.func24, Try.ntmps24
 go_wp2
 have U0 : Hid (BB ((w.alloc (gBox g)).alloc (.cells (madeCells #[.bool false] g.ls.length) 4)) (w.heap.size + 1) (usedL g.ls.length []) /\ Below w.heap.size w ((w.alloc (gBox g)).alloc (.cells (madeCells #[.bool false] g.ls.length) 4)) /\ ((w.alloc (gBox g)).alloc (.cells (madeCells #[.bool false] g.ls.length) 4)).heap[w.heap.size]? = some (gBox g)) := by
  have q := BB.made (w.alloc (gBox g)) g.ls.length
  rw [alZ] at q
  exact ⟨by rw [usedL_nil]; exact q, X0.out.2.trans ((below_alloc _ _).mono X0.out.2.size), blk_later X0.out.1 (below_alloc _ _)⟩
 clear hmk
 generalize (w.alloc (gBox g)).alloc (.cells (madeCells #[.bool false] g.ls.length) 4) = W1 at *
 obtain ⟨ub, hub⟩ : ∃ ub, ub = w.heap.size + 1 := ⟨_, rfl⟩
 rw [<- hub] at U0 ⊢
 have HUB : Hid (ub = w.heap.size + 1) := hub
 clear hub
 go_loopw [7] (fun z wr => ∃ k : Nat, k <= l.length /\ z = .int .i64 k /\ BB wr ub (usedL g.ls.length (l.take k)) /\ Below w.heap.size w wr /\ (l.take k).all (usedB g.ls.length) = true /\ wr.heap[w.heap.size]? = some (gBox g)) (fun z _ => l.length - (intOf z).toNat)
 case atStart => exact ⟨0, Nat.zero_le _, rfl, by rw [List.take_zero]; exact U0.out.1, U0.out.2.1, by simp, U0.out.2.2⟩
 case round =>
  clear U0 X0
  obtain ⟨k, hk, rfl, hB, hbel, hall, hgb⟩ := hrel
  by_cases hlt : k < l.length
  ·obtain ⟨wd, hwd⟩ : ∃ wd : World, wd = wr.drew := ⟨_, rfl⟩
   have SD : Hid (BB wd ub (usedL g.ls.length (l.take k)) /\ Below w.heap.size w wd /\ wd.heap[w.heap.size]? = some (gBox g)) := by rw [hwd]; exact ⟨hB, hbel.drew, hgb⟩
   obtain ⟨rb, ro, hao, hrb, hrc⟩ := (HR.out wd SD.out.2.1).cells (by intro e; rw [e] at hlt; simp at hlt)
   obtain ⟨c0, c1, c2, c3, c4, c5⟩ := hrc k hlt
   have klt : (k : Int) < (l.length : Int) := by omega
   have ET : l.take (k + 1) = l.take k ++ [l[k]] := List.take_succ_eq_append_getElem hlt
   have EA : (l.take (k + 1)).all (usedB g.ls.length) = usedB g.ls.length l[k] := by rw [ET, List.all_append, hall]; simp
   have EM : l[k] ∈ l := List.getElem_mem hlt
   have HN : Hid (usedB g.ls.length l[k] = false -> l.all (usedB g.ls.length) = false) := fun e => List.all_eq_false.2 ⟨_, EM, by rw [e]; simp⟩
   obtain ⟨y0, y1, y2, y3, y4⟩ := gb_cells SD.out.2.2
   rw [hao]
   clear hrc EM hall c0 c1 c2 c3 c4 hB hbel hgb
   generalize l[k] = x at *
   obtain ⟨⟨xl, xk, xp, xd, xs, xv⟩, xa, xc⟩ := x
   simp only at c5
   by_cases a1 : xv < -1
   ·have a1d : decide (xv < -1) = true := by simpa using a1
    have HF : Hid (l.all (usedB g.ls.length) = false) := HN.out (by simp [usedB]; omega)
    clear HN ET EA
    go_wp2
    refine wp_region_s (by kernel_rfl) (by kernel_rfl) wd hwd ?_
    clear hwd
    refine st_yes (v := ?_) (by rfl) ?_ ?_
    rotate_left
    ·(go_simp; with_reducible rfl)
    (try simp only [Act.put, lsA, lsZ, lsN])
    refine st_yes (v := ?_) (by rfl) ?_ ?_
    rotate_left
    ·(go_simp; with_reducible rfl)
    (try simp only [Act.put, lsA, lsZ, lsN])
    refine st_yes (v := ?_) (by rfl) ?_ ?_
    rotate_left
    ·(go_simp; with_reducible rfl)
    (try simp only [Act.put, lsA, lsZ, lsN])
    refine st_yes (v := ?_) (by rfl) ?_ ?_
    rotate_left
    ·(go_simp; with_reducible rfl)
    (try simp only [Act.put, lsA, lsZ, lsN])
    refine st_yes (v := ?_) (by rfl) ?_ ?_
    rotate_left
    ·(go_simp; with_reducible rfl)
    (try simp only [Act.put, lsA, lsZ, lsN])
    refine st_yes (v := ?_) (by rfl) ?_ ?_
    rotate_left
    ·(go_simp; with_reducible rfl)
    (try simp only [Act.put, lsA, lsZ, lsN])
    refine st_yes (v := ?_) (by rfl) ?_ ?_
    rotate_left
    ·(go_simp; with_reducible rfl)
    (try simp only [Act.put, lsA, lsZ, lsN])
    refine st_no (by rfl) ?_
    (try simp only [Act.put, lsA, lsZ, lsN])
    refine st_no (by rfl) ?_
    (try simp only [Act.put, lsA, lsZ, lsN])
    refine st_no (by rfl) ?_
    (try simp only [Act.put, lsA, lsZ, lsN])
    refine st_no (by rfl) ?_
    (try simp only [Act.put, lsA, lsZ, lsN])
    refine st_no (by rfl) ?_
    (try simp only [Act.put, lsA, lsZ, lsN])
    refine st_no (by rfl) ?_
    (try simp only [Act.put, lsA, lsZ, lsN])
    refine st_no (by rfl) ?_
    (try simp only [Act.put, lsA, lsZ, lsN])
    refine st_no (by rfl) ?_
    (try simp only [Act.put, lsA, lsZ, lsN])
    refine st_no (by rfl) ?_
    (try simp only [Act.put, lsA, lsZ, lsN])
    refine st_yes (v := ?_) (by rfl) ?_ ?_
    rotate_left
    ·(go_simp; with_reducible rfl)
    (try simp only [Act.put, lsA, lsZ, lsN])
    refine st_nil ?_
    go_wp2
    refine bodyPost_ret (v := .tuple #[.slice none 0 0, .int .i64 37]) (by simp [results, Try.results24, go_sem]) rfl ?_
    exact ⟨.inr ⟨HF.out, rfl⟩, SD.out.2.1⟩
   ·have a1d : decide (xv < -1) = false := by simpa using a1
    by_cases a2 : (g.ls.length : Int) <= xv
    ·have a2d : decide ((g.ls.length : Int) <= xv) = true := by simpa using a2
     have HF : Hid (l.all (usedB g.ls.length) = false) := HN.out (by simp [usedB]; omega)
     clear HN ET EA
     go_wp2
     refine wp_region_s (by kernel_rfl) (by kernel_rfl) wd hwd ?_
     clear hwd
     refine st_yes (v := ?_) (by rfl) ?_ ?_
     rotate_left
     ·(go_simp; with_reducible rfl)
     (try simp only [Act.put, lsA, lsZ, lsN])
     refine st_yes (v := ?_) (by rfl) ?_ ?_
     rotate_left
     ·(go_simp; with_reducible rfl)
     (try simp only [Act.put, lsA, lsZ, lsN])
     refine st_yes (v := ?_) (by rfl) ?_ ?_
     rotate_left
     ·(go_simp; with_reducible rfl)
     (try simp only [Act.put, lsA, lsZ, lsN])
     refine st_yes (v := ?_) (by rfl) ?_ ?_
     rotate_left
     ·(go_simp; with_reducible rfl)
     (try simp only [Act.put, lsA, lsZ, lsN])
     refine st_yes (v := ?_) (by rfl) ?_ ?_
     rotate_left
     ·(go_simp; with_reducible rfl)
     (try simp only [Act.put, lsA, lsZ, lsN])
     refine st_yes (v := ?_) (by rfl) ?_ ?_
     rotate_left
     ·(go_simp; with_reducible rfl)
     (try simp only [Act.put, lsA, lsZ, lsN])
     refine st_yes (v := ?_) (by rfl) ?_ ?_
     rotate_left
     ·(go_simp; with_reducible rfl)
     (try simp only [Act.put, lsA, lsZ, lsN])
     refine st_yes (v := ?_) (by rfl) ?_ ?_
     rotate_left
     ·(go_simp; with_reducible rfl)
     (try simp only [Act.put, lsA, lsZ, lsN])
     refine st_yes (v := ?_) (by rfl) ?_ ?_
     rotate_left
     ·(go_simp; with_reducible rfl)
     (try simp only [Act.put, lsA, lsZ, lsN])
     refine st_yes (v := ?_) (by rfl) ?_ ?_
     rotate_left
     ·(go_simp; with_reducible rfl)
     (try simp only [Act.put, lsA, lsZ, lsN])
     refine st_yes (v := ?_) (by rfl) ?_ ?_
     rotate_left
     ·(go_simp; with_reducible rfl)
     (try simp only [Act.put, lsA, lsZ, lsN])
     refine st_yes (v := ?_) (by rfl) ?_ ?_
     rotate_left
     ·(go_simp; with_reducible rfl)
     (try simp only [Act.put, lsA, lsZ, lsN])
     refine st_yes (v := ?_) (by rfl) ?_ ?_
     rotate_left
     ·(go_simp; with_reducible rfl)
     (try simp only [Act.put, lsA, lsZ, lsN])
     refine st_yes (v := ?_) (by rfl) ?_ ?_
     rotate_left
     ·(go_simp; with_reducible rfl)
     (try simp only [Act.put, lsA, lsZ, lsN])
     refine st_yes (v := ?_) (by rfl) ?_ ?_
     rotate_left
     ·(go_simp; with_reducible rfl)
     (try simp only [Act.put, lsA, lsZ, lsN])
     refine st_yes (v := ?_) (by rfl) ?_ ?_
     rotate_left
     ·(go_simp; with_reducible rfl)
     (try simp only [Act.put, lsA, lsZ, lsN])
     refine st_yes (v := ?_) (by rfl) ?_ ?_
     rotate_left
     ·(go_simp; with_reducible rfl)
     (try simp only [Act.put, lsA, lsZ, lsN])
     refine st_nil ?_
     go_wp2
     refine bodyPost_ret (v := .tuple #[.slice none 0 0, .int .i64 37]) (by simp [results, Try.results24, go_sem]) rfl ?_
     exact ⟨.inr ⟨HF.out, rfl⟩, SD.out.2.1⟩
    ·have a2d : decide ((g.ls.length : Int) <= xv) = false := by simpa using a2
     have HA : Hid ((l.take (k + 1)).all (usedB g.ls.length) = true) := by show _ = _; rw [EA]; simp [usedB]; omega
     by_cases a3 : xv = -1
     ·subst a3
      have HB2 : Hid (usedL g.ls.length (l.take (k + 1)) = usedL g.ls.length (l.take k)) := by show _ = _; rw [ET]; exact usedL_none rfl
      clear HN ET EA
      go_wp2
      refine wp_region_s (by kernel_rfl) (by kernel_rfl) wd hwd ?_
      clear hwd
      refine st_yes (v := ?_) (by rfl) ?_ ?_
      rotate_left
      ·(go_simp; with_reducible rfl)
      (try simp only [Act.put, lsA, lsZ, lsN])
      refine st_yes (v := ?_) (by rfl) ?_ ?_
      rotate_left
      ·(go_simp; with_reducible rfl)
      (try simp only [Act.put, lsA, lsZ, lsN])
      refine st_yes (v := ?_) (by rfl) ?_ ?_
      rotate_left
      ·(go_simp; with_reducible rfl)
      (try simp only [Act.put, lsA, lsZ, lsN])
      refine st_yes (v := ?_) (by rfl) ?_ ?_
      rotate_left
      ·(go_simp; with_reducible rfl)
      (try simp only [Act.put, lsA, lsZ, lsN])
      refine st_yes (v := ?_) (by rfl) ?_ ?_
      rotate_left
      ·(go_simp; with_reducible rfl)
      (try simp only [Act.put, lsA, lsZ, lsN])
      refine st_yes (v := ?_) (by rfl) ?_ ?_
      rotate_left
      ·(go_simp; with_reducible rfl)
      (try simp only [Act.put, lsA, lsZ, lsN])
      refine st_yes (v := ?_) (by rfl) ?_ ?_
      rotate_left
      ·(go_simp; with_reducible rfl)
      (try simp only [Act.put, lsA, lsZ, lsN])
      refine st_yes (v := ?_) (by rfl) ?_ ?_
      rotate_left
      ·(go_simp; with_reducible rfl)
      (try simp only [Act.put, lsA, lsZ, lsN])
      refine st_yes (v := ?_) (by rfl) ?_ ?_
      rotate_left
      ·(go_simp; with_reducible rfl)
      (try simp only [Act.put, lsA, lsZ, lsN])
      refine st_yes (v := ?_) (by rfl) ?_ ?_
      rotate_left
      ·(go_simp; with_reducible rfl)
      (try simp only [Act.put, lsA, lsZ, lsN])
      refine st_yes (v := ?_) (by rfl) ?_ ?_
      rotate_left
      ·(go_simp; with_reducible rfl)
      (try simp only [Act.put, lsA, lsZ, lsN])
      refine st_yes (v := ?_) (by rfl) ?_ ?_
      rotate_left
      ·(go_simp; with_reducible rfl)
      (try simp only [Act.put, lsA, lsZ, lsN])
      refine st_yes (v := ?_) (by rfl) ?_ ?_
      rotate_left
      ·(go_simp; with_reducible rfl)
      (try simp only [Act.put, lsA, lsZ, lsN])
      refine st_yes (v := ?_) (by rfl) ?_ ?_
      rotate_left
      ·(go_simp; with_reducible rfl)
      (try simp only [Act.put, lsA, lsZ, lsN])
      refine st_yes (v := ?_) (by rfl) ?_ ?_
      rotate_left
      ·(go_simp; with_reducible rfl)
      (try simp only [Act.put, lsA, lsZ, lsN])
      refine st_yes (v := ?_) (by rfl) ?_ ?_
      rotate_left
      ·(go_simp; with_reducible rfl)
      (try simp only [Act.put, lsA, lsZ, lsN])
      refine st_yes (v := ?_) (by rfl) ?_ ?_
      rotate_left
      ·(go_simp; with_reducible rfl)
      (try simp only [Act.put, lsA, lsZ, lsN])
      refine st_nil ?_
      go_wp2
      go_roundw
      case rel => exact ⟨k + 1, by omega, by go_num, by rw [HB2.out]; exact SD.out.1, SD.out.2.1, HA.out, SD.out.2.2⟩
      case measure => simp [intOf]; omega
     ·obtain ⟨m, rfl⟩ : ∃ m : Nat, xv = (m : Int) := ⟨xv.toNat, by omega⟩
      have hm : m < g.ls.length := by omega
      have HB2 : Hid (usedL g.ls.length (l.take (k + 1)) = (usedL g.ls.length (l.take k)).set m true) := by show _ = _; rw [ET]; exact usedL_some rfl
      have ub0 := SD.out.1.cell (i := m) (by rw [usedL_len]; exact hm)
      have ub1 := SD.out.1.free m
      have ub2 := SD.out.1.lt
      have HB3 : Hid (BB (wd.setCell ⟨ub, m, none⟩ (.bool true)) ub ((usedL g.ls.length (l.take k)).set m true) /\ Below w.heap.size w (wd.setCell ⟨ub, m, none⟩ (.bool true)) /\ (wd.setCell ⟨ub, m, none⟩ (.bool true)).heap[w.heap.size]? = some (gBox g)) := ⟨SD.out.1.set m true, SD.out.2.1.setCell (p := ⟨ub, m, none⟩) (by show w.heap.size <= ub; have := HUB.out; omega) _, (setj_ne (by have := HUB.out; omega)).trans SD.out.2.2⟩
      clear HN ET EA
      go_wp2
      refine wp_region_s (by kernel_rfl) (by kernel_rfl) wd hwd ?_
      clear hwd
      refine st_yes (v := ?_) (by rfl) ?_ ?_
      rotate_left
      ·(go_simp; with_reducible rfl)
      (try simp only [Act.put, lsA, lsZ, lsN])
      refine st_yes (v := ?_) (by rfl) ?_ ?_
      rotate_left
      ·(go_simp; with_reducible rfl)
      (try simp only [Act.put, lsA, lsZ, lsN])
      refine st_yes (v := ?_) (by rfl) ?_ ?_
      rotate_left
      ·(go_simp; with_reducible rfl)
      (try simp only [Act.put, lsA, lsZ, lsN])
      refine st_yes (v := ?_) (by rfl) ?_ ?_
      rotate_left
      ·(go_simp; with_reducible rfl)
      (try simp only [Act.put, lsA, lsZ, lsN])
      refine st_yes (v := ?_) (by rfl) ?_ ?_
      rotate_left
      ·(go_simp; with_reducible rfl)
      (try simp only [Act.put, lsA, lsZ, lsN])
      refine st_yes (v := ?_) (by rfl) ?_ ?_
      rotate_left
      ·(go_simp; with_reducible rfl)
      (try simp only [Act.put, lsA, lsZ, lsN])
      refine st_yes (v := ?_) (by rfl) ?_ ?_
      rotate_left
      ·(go_simp; with_reducible rfl)
      (try simp only [Act.put, lsA, lsZ, lsN])
      refine st_yes (v := ?_) (by rfl) ?_ ?_
      rotate_left
      ·(go_simp; with_reducible rfl)
      (try simp only [Act.put, lsA, lsZ, lsN])
      refine st_yes (v := ?_) (by rfl) ?_ ?_
      rotate_left
      ·(go_simp; with_reducible rfl)
      (try simp only [Act.put, lsA, lsZ, lsN])
      refine st_yes (v := ?_) (by rfl) ?_ ?_
      rotate_left
      ·(go_simp; with_reducible rfl)
      (try simp only [Act.put, lsA, lsZ, lsN])
      refine st_yes (v := ?_) (by rfl) ?_ ?_
      rotate_left
      ·(go_simp; with_reducible rfl)
      (try simp only [Act.put, lsA, lsZ, lsN])
      refine st_yes (v := ?_) (by rfl) ?_ ?_
      rotate_left
      ·(go_simp; with_reducible rfl)
      (try simp only [Act.put, lsA, lsZ, lsN])
      refine st_yes (v := ?_) (by rfl) ?_ ?_
      rotate_left
      ·(go_simp; with_reducible rfl)
      (try simp only [Act.put, lsA, lsZ, lsN])
      refine st_yes (v := ?_) (by rfl) ?_ ?_
      rotate_left
      ·(go_simp; with_reducible rfl)
      (try simp only [Act.put, lsA, lsZ, lsN])
      refine st_yes (v := ?_) (by rfl) ?_ ?_
      rotate_left
      ·(go_simp; with_reducible rfl)
      (try simp only [Act.put, lsA, lsZ, lsN])
      refine st_yes (v := ?_) (by rfl) ?_ ?_
      rotate_left
      ·(go_simp; with_reducible rfl)
      (try simp only [Act.put, lsA, lsZ, lsN])
      refine st_yes (v := ?_) (by rfl) ?_ ?_
      rotate_left
      ·(go_simp; with_reducible rfl)
      (try simp only [Act.put, lsA, lsZ, lsN])
      refine st_nil ?_
      go_wp2
      go_roundw
      case rel => exact ⟨k + 1, by omega, by go_num, by rw [HB2.out]; exact HB3.out.1, HB3.out.2.1, HA.out, HB3.out.2.2⟩
      case measure => simp [intOf]; omega
  ·obtain rfl : k = l.length := by omega
   rw [List.take_length] at hB hall
   have klt : ¬ (l.length : Int) < (l.length : Int) := by omega
   have HZ : Hid (BB wr ub (usedL g.ls.length l) /\ Below w.heap.size w wr /\ l.all (usedB g.ls.length) = true) := ⟨hB, hbel, hall⟩
   clear hB hbel hall hgb
   go_wp2
   refine bodyPost_ret (v := .tuple #[.slice (some ⟨ub, 0, none⟩) g.ls.length g.ls.length, .int .i64 0]) (by simp [results, Try.results24, go_sem]) rfl ?_
   exact ⟨.inl ⟨HZ.out.2.2, ub, rfl, HZ.out.1, by have := HUB.out; omega⟩, HZ.out.2.1⟩
set_option linter.unusedSimpArgs false in
theorem all_P (ao bo : Option Addr) (ca cb : Nat) (l m : List DM) (w : World) (hl : l.length <= 140737488355328) (hlm : l.map DM.d = m.map DM.d) (hd : ∀ x ∈ l, x.d.drop.length <= 140737488355328) (h1 : DRow w ao l) (h2 : DRow w bo m) :
  Calls Try.prog 26 #[.slice ao l.length ca, .slice bo m.length cb] w fun e w' => e = .returned (.bool true) /\ Below w.heap.size w w' := by
 have hlen : l.length = m.length := by have := congrArg List.length hlm; simpa using this
 have H1 : Hid (∀ w', Below w.heap.size w w' -> DRow w' ao l /\ DRow w' bo m) := fun w' hb => ⟨h1.later hb, h2.later hb⟩
 have HDL : Hid (∀ x ∈ l, x.d.drop.length <= 140737488355328) := hd
 have HLM : Hid (l.map DM.d = m.map DM.d) := hlm
 rw [<- hlen]
 have HLE : Hid (l.length = m.length) := hlen
 clear hlen
 have t0 : ((l.length : Int) != (l.length : Int)) = false := by simp
 clear h1 h2 hlm hd
 go_enter Try.func26, Try.ntmps26
 go_wp2
 go_loopw [5] (fun z wr => ∃ k : Nat, k <= l.length /\ z = .int .i64 k /\ Below w.heap.size w wr) (fun z _ => l.length - (intOf z).toNat)
 case atStart => exact ⟨0, Nat.zero_le _, rfl, Below.refl _ _⟩
 case round =>
  obtain ⟨k, hk, rfl, hbel⟩ := hrel
  by_cases hlt : k < l.length
  ·obtain ⟨wd, hwd⟩ : ∃ wd : World, wd = wr.drew := ⟨_, rfl⟩
   have SD : Hid (Below w.heap.size w wd) := by rw [hwd]; exact hbel.drew
   have hlt2 : k < m.length := by have := HLE.out; omega
   obtain ⟨q1, q2⟩ := H1.out wd SD.out
   obtain ⟨rb, ro, hao, hrb, hrc⟩ := q1.cells (by intro e; rw [e] at hlt; simp at hlt)
   obtain ⟨sb, so, hbo, hsb, hsc⟩ := q2.cells (by intro e; rw [e] at hlt2; simp at hlt2)
   obtain ⟨c0, c1, c2, c3, c4, c5⟩ := hrc k hlt
   obtain ⟨d0, d1, d2, d3, d4, d5⟩ := hsc k hlt2
   have klt : (k : Int) < (l.length : Int) := by omega
   have ED : m[k].d = l[k].d := by
    have e : (l.map DM.d)[k]? = (m.map DM.d)[k]? := by rw [HLM.out]
    simp only [List.getElem?_map, List.getElem?_eq_getElem hlt, List.getElem?_eq_getElem hlt2, Option.map_some, Option.some.injEq] at e
    exact e.symm
   have R1 := q1.rows _ (List.getElem_mem hlt)
   have R2 := q2.rows _ (List.getElem_mem hlt2)
   have HL1 := HDL.out _ (List.getElem_mem hlt)
   rw [ED] at d0 d1 d2 d3 d4 d5 R2
   have SM : Hid (Calls Try.prog 17 #[dval l[k].d l[k].ao l[k].c, dval l[k].d m[k].ao m[k].c] wd fun e' w' => e' = .returned (.bool true) /\ Below wd.heap.size wd w') := same_P l[k].d l[k].ao m[k].ao l[k].c m[k].c wd HL1 R1 R2
   rw [hao, hbo]
   clear hrc hsc q1 q2 R1 R2 HL1 ED hbel
   generalize l[k] = x at *
   generalize m[k] = y at *
   obtain ⟨⟨xl, xk, xp, xd, xs, xv⟩, xa, xc⟩ := x
   obtain ⟨yd, ya, yc⟩ := y
   simp only at c0 c1 c2 c3 c4 c5 d0 d1 d2 d3 d4 d5 SM
   go_wp2
   refine wp_region_tail_s 8 (by kernel_rfl) (by kernel_rfl) wd hwd ?_
   clear hwd
   simp only [List.take_succ_cons, List.take_zero, List.drop_succ_cons, List.drop_zero]
   refine st_yes (v := ?_) (by rfl) ?_ ?_
   rotate_left
   ·(go_simp; with_reducible rfl)
   (try simp only [Act.put, lsA, lsZ, lsN])
   refine st_yes (v := ?_) (by rfl) ?_ ?_
   rotate_left
   ·(go_simp; with_reducible rfl)
   (try simp only [Act.put, lsA, lsZ, lsN])
   refine st_yes (v := ?_) (by rfl) ?_ ?_
   rotate_left
   ·(go_simp; with_reducible rfl)
   (try simp only [Act.put, lsA, lsZ, lsN])
   refine st_yes (v := ?_) (by rfl) ?_ ?_
   rotate_left
   ·(go_simp; with_reducible rfl)
   (try simp only [Act.put, lsA, lsZ, lsN])
   refine st_yes (v := ?_) (by rfl) ?_ ?_
   rotate_left
   ·(go_simp; with_reducible rfl)
   (try simp only [Act.put, lsA, lsZ, lsN])
   refine st_yes (v := ?_) (by rfl) ?_ ?_
   rotate_left
   ·(go_simp; with_reducible rfl)
   (try simp only [Act.put, lsA, lsZ, lsN])
   refine st_yes (v := ?_) (by rfl) ?_ ?_
   rotate_left
   ·(go_simp; with_reducible rfl)
   (try simp only [Act.put, lsA, lsZ, lsN])
   refine st_yes (v := ?_) (by rfl) ?_ ?_
   rotate_left
   ·(go_simp; with_reducible rfl)
   (try simp only [Act.put, lsA, lsZ, lsN])
   refine st_nil ?_
   go_wp2_with (go_at_call 17; refine SM.out.mono ?_; rintro e w4 ⟨rfl, b4⟩; have SE : Hid (Below w.heap.size w w4) := SD.out.trans (b4.mono SD.out.size); clear b4)
   go_roundw
   case rel => exact ⟨k + 1, by omega, by go_num, SE.out⟩
   case measure => simp [intOf]; omega
  ·have klt : ¬ (k : Int) < (l.length : Int) := by omega
   go_wp2
   go_ret
   exact ⟨rfl, hbel⟩
end Go.Proofs.Ytlkkllehaabebaa
namespace Go.Proofs.Ytlkkllehaabebaa
set_option linter.unusedVariables false
set_option maxRecDepth 100000
set_option maxHeartbeats 16000000
open Go.RowKit Go.Maps
section
variable {B : Nat} {w0 w w' : World} {q : Nat} {V : Nat -> Value} {E : Nat -> List HE} {n1 n2 n4 : Nat}
theorem HG.keptD (h : HG B w0 w q V E n1 n2 n4) (hs : w.heap.size <= w'.heap.size) (hb : Below B w w') (hk : ∀ (k : Nat) (C : Array Value) (t : TypeId), w.heap[k]? = some (.cells C t (0, 0)) -> t ≠ 47 -> w'.heap[k]? = w.heap[k]?) : HG B w0 w' q V E n1 n2 n4 := by
 have ent : ∀ κ, ∀ e ∈ E κ, e.t ≠ 47 := fun κ e he => by
  by_cases k1 : κ = 1
  ·subst k1; rw [(h.st.int e he).1]; decide
  by_cases k2 : κ = 2
  ·subst k2; rw [(h.st.str e he).1]; decide
  by_cases k4 : κ = 4
  ·subst k4; rw [(h.st.sym e he).1]; decide
  rw [h.st.no κ k1 k2 k4] at he; cases he
 have tyn : ∀ i, tyG i ≠ 47 := fun i => by
  unfold tyG
  split
  ·decide
  ·split
   ·decide
   ·split
    ·decide
    ·split <;> decide
 refine ⟨⟨(hk _ _ _ h.inv.hq (by decide)).trans h.inv.hq, fun i => ?_, h.inv.apart, fun κ e he => (h.inv.at_ κ e he).keptBy fun k C hC => hk k C _ hC (ent κ e he), h.inv.tq, h.inv.te⟩, h.lo, h.q, h.bel.trans hb, Nat.le_trans h.sz hs, h.st, h.l1, h.l2, h.l4⟩
 exact row_kept (h.inv.row i) fun k C _ hC => hk k C _ hC (tyn i)
end
theorem nil_own (P : Nat -> Prop) : ∀ j, (Value.slice none 0 0).ownBlock = some j -> P j := fun j e => by
 have h : (none : Option Nat) = some j := e
 cases h
theorem okT_dec : OkT 47 := by unfold OkT; decide
structure OW (g : GV) (l : List DM) (w : World) (k : Nat) (own : List DM) (V : Nat -> Value) (E : Nat -> List HE) (ov : Value) (wr : World) : Prop where
 hg : HG (w.heap.size + 1) (w.alloc (gBox g)) wr (w.heap.size + 1) V E k 0 0
 gb : wr.heap[w.heap.size]? = some (gBox g)
 bel : Below w.heap.size w wr
 ro : RO 47 6 dCells wr ov own
 oo : ∀ j, ov.ownBlock = some j -> w.heap.size + 1 < j
 ds : own.map DM.d = (l.take k).map DM.d
 nb : ∀ x ∈ own, ∃ b, x.ao = some ⟨b, 0, none⟩ /\ NB wr b x.d.drop
theorem app_cells (x : DM) (w : World) (t : TypeId) {n : Nat} (hn : n = w.heap.size) : ∀ (j : Nat) (u : Value), (dCells x)[j]? = some u -> (w.alloc (.cells #[.int .i64 x.d.look, .int .i64 x.d.kind, .int .i64 x.d.prod, .slice x.ao x.d.drop.length x.c, .bool x.d.sd, .int .i64 x.d.lev] t)).cell? ⟨n, j, none⟩ = some u := fun j u hu => by
 subst hn
 rw [cellq_any (heap_alloc_new _ _)]
 match j with
 | 0 => simpa [dCells] using hu
 | 1 => simpa [dCells] using hu
 | 2 => simpa [dCells] using hu
 | 3 => simpa [dCells] using hu
 | 4 => simpa [dCells] using hu
 | 5 => simpa [dCells] using hu
 | j + 6 => simp [dCells] at hu
theorem OW.mid {g : GV} {l : List DM} {w : World} {k : Nat} {own : List DM} {V : Nat -> Value} {E : Nat -> List HE} {ov : Value} {wr : World} (h : OW g l w k own V E ov wr) {C : Array Value} {w2 : World} (ot : Oth (wr.alloc (.cells C 47)) w2) (b2 : Below (w.heap.size + 1) (wr.alloc (.cells C 47)) w2) (v3 : Value) :
  (∀ (b : Nat) (D : Array Value) (t : TypeId), wr.heap[b]? = some (.cells D t (0, 0)) -> OkT t -> (w2.setCell ⟨wr.heap.size, 3, none⟩ v3).heap[b]? = some (.cells D t (0, 0))) /\ Below w.heap.size w (w2.setCell ⟨wr.heap.size, 3, none⟩ v3) /\ wr.heap.size < (w2.setCell ⟨wr.heap.size, 3, none⟩ v3).heap.size := by
 have hn := h.bel.size
 refine ⟨fun b D t hb ht => ?_, ?_, ?_⟩
 ·have h1 : (wr.alloc (.cells C 47)).heap[b]? = some (.cells D t (0, 0)) := blk_later hb (below_alloc _ _)
  have h2 := (ot.blk b D t h1 ht).trans h1
  exact (setj_ne (by have := lt_of_block hb; omega)).trans h2
 ·exact ((h.bel.trans ((below_alloc _ _).mono hn)).trans (b2.mono (by omega))).setCell (p := ⟨wr.heap.size, 3, none⟩) hn _
 ·have := ot.size
  rw [alZ] at this
  have e : (w2.setCell ⟨wr.heap.size, 3, none⟩ v3).heap.size = w2.heap.size := by simp
  omega
theorem OW.ro4 {g : GV} {l : List DM} {w : World} {k : Nat} {own : List DM} {V : Nat -> Value} {E : Nat -> List HE} {ov : Value} {wr : World} (h : OW g l w k own V E ov wr) {C : Array Value} {w2 : World} (ot : Oth (wr.alloc (.cells C 47)) w2) (b2 : Below (w.heap.size + 1) (wr.alloc (.cells C 47)) w2) (v3 : Value) (o4 : Obj) :
  RO 47 6 dCells ((w2.setCell ⟨wr.heap.size, 3, none⟩ v3).alloc o4) ov own := by
 refine RO.later ?_ (below_alloc _ _)
 rcases h.ro.2 with ⟨e, e0⟩ | ⟨b, cp, cur, e, e1, e2, e3⟩
 ·exact ⟨h.ro.1, .inl ⟨e, e0⟩⟩
 ·exact ⟨h.ro.1, .inr ⟨b, cp, cur, e, e1, (h.mid ot b2 v3).1 b cur _ e2 okT_dec, e3⟩⟩
theorem OW.step {g : GV} {l : List DM} {w : World} {k : Nat} {own : List DM} {V V2 : Nat -> Value} {E E2 : Nat -> List HE} {ov v6 : Value} {wr : World} (h : OW g l w k own V E ov wr) (hk : k < l.length) {C : Array Value} {w2 w6 : World} (h2 : HG (w.heap.size + 1) (w.alloc (gBox g)) w2 (w.heap.size + 1) V2 E2 (k + 1) 0 0) (ot : Oth (wr.alloc (.cells C 47)) w2) (b2 : Below (w.heap.size + 1) (wr.alloc (.cells C 47)) w2) {nbk c : Nat} {d : DV} (hd : l[k].d = d) (n2 : NB w2 nbk d.drop) (v3 : Value) (o4 : Obj)
  (hg : Grew ((w2.setCell ⟨wr.heap.size, 3, none⟩ v3).alloc o4) w6 ov v6) (hr : RO 47 6 dCells w6 v6 (own ++ [(⟨d, some ⟨nbk, 0, none⟩, c⟩ : DM)])) : OW g l w (k + 1) (own ++ [(⟨d, some ⟨nbk, 0, none⟩, c⟩ : DM)]) V2 E2 v6 w6 := by
 obtain ⟨m1, m2, m3⟩ := h.mid ot b2 v3
 have hD : w2.heap[wr.heap.size]? = some (.cells C 47 (0, 0)) := (ot.blk _ _ _ (heap_alloc_new _ _) okT_dec).trans (heap_alloc_new _ _)
 have ro4 := h.ro4 ot b2 v3 o4
 have mono : ∀ (b : Nat) (D : Array Value) (t : TypeId), t ≠ 47 -> ((w2.setCell ⟨wr.heap.size, 3, none⟩ v3).alloc o4).heap[b]? = some (.cells D t (0, 0)) -> w6.heap[b]? = some (.cells D t (0, 0)) := fun b D t ht hb => grew_ne hg hb fun e => by
  obtain ⟨cur, fr, q⟩ := ro4.ty e
  rw [hb] at q
  simp at q
  exact ht q.2.1
 have set_ : ∀ (b : Nat) (D : Array Value) (t : TypeId), t ≠ 47 -> w2.heap[b]? = some (.cells D t (0, 0)) -> ((w2.setCell ⟨wr.heap.size, 3, none⟩ v3).alloc o4).heap[b]? = some (.cells D t (0, 0)) := fun b D t ht hb => blk_later ((setj_ne (fun e => by subst e; rw [hD] at hb; simp at hb; exact ht hb.2.symm)).trans hb) (below_alloc _ _)
 have m4 : Below w.heap.size w ((w2.setCell ⟨wr.heap.size, 3, none⟩ v3).alloc o4) := m2.trans ((below_alloc _ _).mono m2.size)
 have oo := h.oo
 refine ⟨?_, ?_, hg.below m4 (Nat.le_refl _) (fun j hj => by have := oo j hj; omega), hr, fun j hj => ?_, ?_, fun x hx => ?_⟩
 ·have q3 : HG (w.heap.size + 1) (w.alloc (gBox g)) (w2.setCell ⟨wr.heap.size, 3, none⟩ v3) (w.heap.size + 1) V2 E2 (k + 1) 0 0 := h2.keptD (by simp) ((Below.refl _ _).setCell (p := ⟨wr.heap.size, 3, none⟩) (by have := h.hg.sz; exact this) _) (fun b D t hb ht => setj_ne (fun e => by subst e; rw [hD] at hb; simp at hb; exact ht hb.2.symm))
  have q4 := q3.later (below_alloc (w2.setCell ⟨wr.heap.size, 3, none⟩ v3) o4)
  refine q4.keptD hg.grown.size (hg.below (Below.refl _ _) q4.sz (fun j hj => by have := oo j hj; omega)) (fun b D t hb ht => ?_)
  exact (mono b D t ht hb).trans hb.symm
 ·exact mono _ _ _ (by decide) (blk_later (m1 _ _ _ h.gb okT_gram) (below_alloc _ _))
 ·have := hg.own (n := w.heap.size + 2) (by have := m4.size; have := lt_of_block h.hg.inv.hq; have := m3; rw [alZ]; omega) (fun j hj => oo j hj) j hj
  omega
 ·rw [List.map_append, h.ds, List.take_succ_eq_append_getElem hk, List.map_append, <- hd]
  rfl
 ·rcases List.mem_append.1 hx with hx | hx
  ·obtain ⟨b, e1, zs, e2, e3⟩ := h.nb x hx
   exact ⟨b, e1, zs, mono _ _ _ (by decide) (blk_later (m1 _ _ _ e2 okT_int) (below_alloc _ _)), e3⟩
  ·obtain rfl : x = (⟨d, some ⟨nbk, 0, none⟩, c⟩ : DM) := by simpa using hx
   obtain ⟨zs, e2, e3⟩ := n2
   exact ⟨nbk, rfl, zs, mono _ _ _ (by decide) (set_ _ _ _ (by decide) e2), e3⟩
theorem RO.drow {w : World} {a : Option Addr} {n c : Nat} {l : List DM} (h : RO 47 6 dCells w (.slice a n c) l) (hr : ∀ x ∈ l, InRow w x.ao x.d.drop) : DRow w a l := by
 refine ⟨fun hn => ?_, hr⟩
 obtain ⟨b, c', e, _, _⟩ := RO.cell (f := dCells) (k := 6) (fun _ => rfl) h (i := 0) (List.length_pos_iff.2 hn)
 have hb : b < w.heap.size := h.lt b (by rw [e]; rfl)
 have ea : a = some ⟨b, 0, none⟩ := by simp only [Value.slice.injEq] at e; exact e.1
 refine ⟨b, 0, ea, hb, fun i hi => ?_⟩
 obtain ⟨b', c2, e', _, hc'⟩ := RO.cell (f := dCells) (k := 6) (fun _ => rfl) h hi
 have eb : b' = b := by rw [e] at e'; simp only [Value.slice.injEq, Option.some.injEq, Addr.mk.injEq] at e'; exact e'.1.1.symm
 subst eb
 have k0 := hc' 0 (by decide)
 have k1 := hc' 1 (by decide)
 have k2 := hc' 2 (by decide)
 have k3 := hc' 3 (by decide)
 have k4 := hc' 4 (by decide)
 have k5 := hc' 5 (by decide)
 simp only [dCells, List.getElem?_cons_zero, List.getElem?_cons_succ, Nat.add_zero] at k0 k1 k2 k3 k4 k5
 rw [Nat.zero_add]
 exact ⟨k0, k1, k2, k3, k4, k5⟩
structure UW (g x : GV) (l own : List DM) (w : World) (V : Nat -> Value) (E : Nat -> List HE) (oa : Option Addr) (wr : World) : Prop where
 bel : Below w.heap.size w wr
 box : wr.heap[w.heap.size]? = some (gBox g)
 hg : HG (w.heap.size + 1) (w.alloc (gBox g)) wr (w.heap.size + 1) V E (l.length + g.ls.length) (0 + 2) (0 + g.ps.length)
 same : SameG g x
 gx : GX wr x
 dr : DRow wr oa own
theorem UW.later {g x : GV} {l own : List DM} {w : World} {V : Nat -> Value} {E : Nat -> List HE} {oa : Option Addr} {wr w' : World} (h : UW g x l own w V E oa wr) (hb : Below wr.heap.size wr w') : UW g x l own w V E oa w' :=
 ⟨h.bel.trans (hb.mono h.bel.size), blk_later h.box hb, h.hg.later hb, h.same, h.gx.later hb, h.dr.later hb⟩
theorem OW.drow {g : GV} {l : List DM} {w : World} {k : Nat} {own : List DM} {V : Nat -> Value} {E : Nat -> List HE} {oa : Option Addr} {n oc : Nat} {wr w' : World} (h : OW g l w k own V E (.slice oa n oc) wr) (ot : Oth wr w') : DRow w' oa own := by
 have ro : RO 47 6 dCells w' (.slice oa n oc) own := by
  rcases h.ro.2 with ⟨e, e0⟩ | ⟨b, cp, cur, e, e1, e2, e3⟩
  ·exact ⟨h.ro.1, .inl ⟨e, e0⟩⟩
  ·exact ⟨h.ro.1, .inr ⟨b, cp, cur, e, e1, (ot.blk b cur _ e2 okT_dec).trans e2, e3⟩⟩
 refine ro.drow fun x hx => ?_
 obtain ⟨b, e, hn⟩ := h.nb x hx
 rw [e]
 exact (hn.oth ot).row
theorem used_map {n : Nat} {l m : List DM} (h : l.map DM.d = m.map DM.d) : usedL n l = usedL n m /\ l.all (usedB n) = m.all (usedB n) := by
 have e1 : ∀ (k : List DM) (i : Nat), (k.any fun x => decide (x.d.lev = (i : Int))) = (k.map DM.d).any fun d => decide (d.lev = (i : Int)) := fun k i => by rw [List.any_map]; rfl
 have e2 : ∀ k : List DM, k.all (usedB n) = (k.map DM.d).all fun d => decide (-1 <= d.lev /\ d.lev < n) := fun k => by rw [List.all_map]; rfl
 refine ⟨?_, by rw [e2, e2, h]⟩
 unfold usedL
 apply List.map_congr_left
 intro i _
 rw [e1, e1, h]
set_option linter.unusedSimpArgs false in
theorem uses_no (g : GV) (ao : Option Addr) (cap : Nat) (l : List DM) (w : World) (h : GAt 140737488355328 w g) (hfi : GFine g) (hl : l.length <= 1048576) (hdd : ∀ x ∈ l, x.d.drop.length <= 1048576) (hr : DRow w ao l) (er at_ : Int) (hE : checkG g (checkF g.ts g.ns) = (er, at_)) (h0 : er ≠ 0) :
  Calls Try.prog 4 #[g.val, .slice ao l.length cap] w fun e w' => e = .returned (.bool true) /\ Below w.heap.size w w' := by
 have X0 : Hid ((w.alloc (gBox g)).heap[w.heap.size]? = some (gBox g)) := heap_alloc_new _ _
 have H0 : Hid (HG (w.heap.size + 1) (w.alloc (gBox g)) ((w.alloc (gBox g)).alloc gvBoxT) (w.heap.size + 1) (fun _ => hNil) (fun _ => []) 0 0 0) := by
  have := hg_newT (w.heap.size + 1) (w.alloc (gBox g)) (w.alloc (gBox g)) (Below.refl _ _) (by simp)
  rw [show (w.alloc (gBox g)).heap.size = w.heap.size + 1 by simp] at this
  exact this
 have O0 : Hid (OW g l w 0 [] (fun _ => hNil) (fun _ => []) (.slice none 0 0) ((w.alloc (gBox g)).alloc gvBoxT)) := ⟨H0.out, blk_later X0.out (below_alloc _ _), (below_alloc w _).trans ((below_alloc _ _).mono (below_alloc w _).size), RO.nil _, nil_own _, rfl, fun x hx => absurd hx List.not_mem_nil⟩
 have HR : Hid (∀ w', Below w.heap.size w w' -> DRow w' ao l) := fun w' hb => hr.later hb
 have HDD : Hid (∀ x ∈ l, x.d.drop.length <= 1048576) := hdd
 have HFI : Hid (GFine g) := hfi
 have B0 : Hid (∀ wr, Below w.heap.size w wr -> GAt 140737488355328 wr g) := fun wr hb => h.later hb
 have HXA : Hid (∀ x own V E oa wr, UW g x l own w V E oa wr -> GAt 140737488355328 wr x /\ x.ps.length <= x.pc /\ checkG x (checkF x.ts x.ns) = (er, at_)) := fun x own V E oa wr k => ⟨(k.gx.at k.same h).1, (k.gx.at k.same h).2, (same_check k.same).trans hE⟩
 have MY : Hid (∀ wr, Below w.heap.size w wr -> Calls Try.prog 13 #[g.val] wr fun e w' => e = .returned (.int .i64 er) /\ Below wr.heap.size wr w') := fun wr hb => by
  have := refmay_G g wr (h.later hb)
  rwa [hE] at this
 have t1 : (er != 0) = true := by simpa using h0
 have t2 : (er == er) = true := by simp
 have H00 : Hid (er ≠ 0) := h0
 clear h hfi hE h0 hr hdd
 go_enter Try.func4, Try.ntmps4
 go_wp2
 go_loopw [6, 7] (fun y z wr => ∃ (k : Nat) (own : List DM) (V : Nat -> Value) (E : Nat -> List HE) (oa : Option Addr) (oc : Nat), k <= l.length /\ z = .int .i64 k /\ y = .slice oa k oc /\ OW g l w k own V E (.slice oa k oc) wr) (fun _ z _ => l.length - (intOf z).toNat)
 case atStart => exact ⟨0, [], _, _, _, _, Nat.zero_le _, rfl, rfl, O0.out⟩
 case round =>
  clear O0 H0 X0
  obtain ⟨k, own, V, E, oa, oc, hk, rfl, rfl, hO⟩ := hrel
  have HO : Hid (OW g l w k own V E (.slice oa k oc) wr) := hO
  by_cases hlt : k < l.length
  ·obtain ⟨rb, ro, hao, hrb, hrc⟩ := (HR.out wr hO.bel).cells (by intro e; rw [e] at hlt; simp at hlt)
   obtain ⟨c0, c1, c2, c3, c4, c5⟩ := hrc k hlt
   have klt : (k : Int) < (l.length : Int) := by omega
   have EM : l[k] ∈ l := List.getElem_mem hlt
   have HRW := (HR.out wr hO.bel).rows _ EM
   have HDx := HDD.out _ EM
   have ET : (l.take (k + 1)).map DM.d = (l.take k).map DM.d ++ [l[k].d] := by rw [List.take_succ_eq_append_getElem hlt, List.map_append]; rfl
   rw [hao]
   clear hrc EM hO
   generalize hx : l[k] = x at *
   obtain ⟨⟨xl, xk, xp, xd, xs, xv⟩, xa, xc⟩ := x
   simp only at c0 c1 c2 c3 c4 c5 HRW HDx ET
   have EX : Hid (l[k].d = ⟨xl, xk, xp, xd, xs, xv⟩) := by show _ = _; rw [hx]
   clear hx ET
   have W1g : Hid (HG (w.heap.size + 1) (w.alloc (gBox g)) (wr.alloc (.cells #[.int .i64 xl, .int .i64 xk, .int .i64 xp, .slice xa xd.length xc, .bool xs, .int .i64 xv] 47)) (w.heap.size + 1) V E k 0 0 /\ (wr.alloc (.cells #[.int .i64 xl, .int .i64 xk, .int .i64 xp, .slice xa xd.length xc, .bool xs, .int .i64 xv] 47)).heap[wr.heap.size]? = some (.cells #[.int .i64 xl, .int .i64 xk, .int .i64 xp, .slice xa xd.length xc, .bool xs, .int .i64 xv] 47 (0, 0)) /\ InRow (wr.alloc (.cells #[.int .i64 xl, .int .i64 xk, .int .i64 xp, .slice xa xd.length xc, .bool xs, .int .i64 xv] 47)) xa xd /\ (wr.alloc (.cells #[.int .i64 xl, .int .i64 xk, .int .i64 xp, .slice xa xd.length xc, .bool xs, .int .i64 xv] 47)).heap.size = wr.heap.size + 1) := ⟨HO.out.hg.later (below_alloc _ _), heap_alloc_new _ _, HRW.later (below_alloc _ _), alZ _ _⟩
   have IC1 : Hid (Calls Try.prog 22 #[.pointer (some ⟨w.heap.size + 1, 0, none⟩), .slice xa xd.length xc] (wr.alloc (.cells #[.int .i64 xl, .int .i64 xk, .int .i64 xp, .slice xa xd.length xc, .bool xs, .int .i64 xv] 47)) fun e w' => e = .returned (.slice (some ⟨wr.heap.size + 1, 0, none⟩) xd.length (xd.length + 3)) /\ (∃ V' E', HG (w.heap.size + 1) (w.alloc (gBox g)) w' (w.heap.size + 1) V' E' (k + 1) 0 0) /\ Oth (wr.alloc (.cells #[.int .i64 xl, .int .i64 xk, .int .i64 xp, .slice xa xd.length xc, .bool xs, .int .i64 xv] 47)) w' /\ Below (w.heap.size + 1) (wr.alloc (.cells #[.int .i64 xl, .int .i64 xk, .int .i64 xp, .slice xa xd.length xc, .bool xs, .int .i64 xv] 47)) w' /\ NB w' (wr.heap.size + 1) xd) := by
    have := hg_intF W1g.out.1 (by omega) xa xc xd (by omega) W1g.out.2.2.1
    rw [W1g.out.2.2.2] at this
    exact this.mono fun e w' ⟨a1, ⟨V', E', a2, _⟩, a3, a4, a5⟩ => ⟨a1, ⟨V', E', a2⟩, a3, a4, a5⟩
   clear HRW
   have HLn : Hid (own.length = k) := by have := congrArg List.length HO.out.ds; rw [List.length_map, List.length_map, List.length_take] at this; show _ = _; omega
   go_wp2_with (first
    | (go_at_call 22; refine IC1.out.mono ?_; rintro e w2 ⟨rfl, ⟨V2, E2, h2⟩, o2, b2, n2⟩; have S2 : Hid (HG (w.heap.size + 1) (w.alloc (gBox g)) w2 (w.heap.size + 1) V2 E2 (k + 1) 0 0 /\ Oth (wr.alloc (.cells #[.int .i64 xl, .int .i64 xk, .int .i64 xp, .slice xa xd.length xc, .bool xs, .int .i64 xv] 47)) w2 /\ NB w2 (wr.heap.size + 1) xd /\ w2.heap[wr.heap.size]? = some (.cells #[.int .i64 xl, .int .i64 xk, .int .i64 xp, .slice xa xd.length xc, .bool xs, .int .i64 xv] 47 (0, 0)) /\ Below (w.heap.size + 1) (wr.alloc (.cells #[.int .i64 xl, .int .i64 xk, .int .i64 xp, .slice xa xd.length xc, .bool xs, .int .i64 xv] 47)) w2) := ⟨h2, o2, n2, (o2.blk _ _ _ W1g.out.2.1 okT_dec).trans W1g.out.2.1, b2⟩; clear h2 o2 n2 b2 c0 c1 c2 c3 c4 c5; have z0 : w2.cell? ⟨wr.heap.size, 0, none⟩ = some (.int .i64 xl) := (cellq_any S2.out.2.2.2.1).trans rfl; have z1 : w2.cell? ⟨wr.heap.size, 1, none⟩ = some (.int .i64 xk) := (cellq_any S2.out.2.2.2.1).trans rfl; have z2 : w2.cell? ⟨wr.heap.size, 2, none⟩ = some (.int .i64 xp) := (cellq_any S2.out.2.2.2.1).trans rfl; have z3 : w2.cell? ⟨wr.heap.size, 3, none⟩ = some (.slice xa xd.length xc) := (cellq_any S2.out.2.2.2.1).trans rfl; have z4 : w2.cell? ⟨wr.heap.size, 4, none⟩ = some (.bool xs) := (cellq_any S2.out.2.2.2.1).trans rfl; have z5 : w2.cell? ⟨wr.heap.size, 5, none⟩ = some (.int .i64 xv) := (cellq_any S2.out.2.2.2.1).trans rfl; have f3 := frostS S2.out.2.2.2.1 3; have hz3 := lt_of_block S2.out.2.2.2.1)
    | (at_builtin; refine wpList_ro_append rkDec rfl _ _ rfl (.slice oa k oc) own rfl (HO.out.ro4 S2.out.2.1 S2.out.2.2.2.2 (.slice (some ⟨wr.heap.size + 1, 0, none⟩) xd.length (xd.length + 3)) (.cells #[.int .i64 xl, .int .i64 xk, .int .i64 xp, .slice (some ⟨wr.heap.size + 1, 0, none⟩) xd.length (xd.length + 3), .bool xs, .int .i64 xv] 47)) w2.heap.size 1 ⟨⟨xl, xk, xp, xd, xs, xv⟩, some ⟨wr.heap.size + 1, 0, none⟩, xd.length + 3⟩ rfl (app_cells _ _ _ (by simp)) (by have := HLn.out; omega) ?_; intro a6 n6 c6 w6 ho6 hg6; have O6 : Hid (OW g l w (k + 1) (own ++ [(⟨⟨xl, xk, xp, xd, xs, xv⟩, some ⟨wr.heap.size + 1, 0, none⟩, xd.length + 3⟩ : DM)]) V2 E2 (.slice a6 n6 c6) w6) := HO.out.step hlt S2.out.1 S2.out.2.1 S2.out.2.2.2.2 EX.out S2.out.2.2.1 (.slice (some ⟨wr.heap.size + 1, 0, none⟩) xd.length (xd.length + 3)) (.cells #[.int .i64 xl, .int .i64 xk, .int .i64 xp, .slice (some ⟨wr.heap.size + 1, 0, none⟩) xd.length (xd.length + 3), .bool xs, .int .i64 xv] 47) hg6 ho6; clear ho6 hg6 z0 z1 z2 z3 z4 z5 f3 hz3 S2))
   obtain ⟨a7, c7, e7, _⟩ := O6.out.ro.len
   have HL6 : (own ++ [(⟨⟨xl, xk, xp, xd, xs, xv⟩, some ⟨wr.heap.size + 1, 0, none⟩, xd.length + 3⟩ : DM)]).length = k + 1 := by rw [List.length_append, HLn.out]; rfl
   rw [HL6] at e7
   have e8 : n6 = k + 1 := by simp only [Value.slice.injEq] at e7; exact e7.2.1
   subst e8
   clear e7 HL6
   go_wp2
   go_roundw
   case rel => exact ⟨k + 1, _, _, _, _, _, by omega, by go_num, rfl, O6.out⟩
   case measure => simp [intOf]; omega
  ·obtain rfl : k = l.length := by omega
   have klt : ¬ (l.length : Int) < (l.length : Int) := by omega
   clear hO
   have HOL : Hid (own.length = l.length) := by have := congrArg List.length HO.out.ds; rw [List.length_map, List.length_map, List.length_take] at this; show _ = _; omega
   obtain ⟨y0, y1, y2, y3, y4⟩ := gb_cells HO.out.gb
   go_wp2_with (first
    | (go_at_call 8; refine (hg_gram HO.out.hg (by omega) (by omega) (by omega) g HFI.out (fun wr2 hb => B0.out wr2 (HO.out.bel.trans (hb.mono (by omega))))).mono ?_; rintro e w1 ⟨x, rfl, hs, hx, ho⟩; obtain ⟨V1, E1, k1⟩ := ho.ex; have U1 : Hid (UW g x l own w V1 E1 oa w1) := ⟨HO.out.bel.trans (ho.bel.mono (by omega)), (ho.oth.blk _ _ _ HO.out.gb okT_gram).trans HO.out.gb, k1, hs, hx, HO.out.drow ho.oth⟩; clear hs hx ho k1 y0 y1 y2 y3 y4)
    | (go_at_call 23; refine (Used_no x oa _ _ w1 (HXA.out _ _ _ _ _ _ U1.out).1 (HXA.out _ _ _ _ _ _ U1.out).2.1 er at_ (HXA.out _ _ _ _ _ _ U1.out).2.2 H00.out).mono ?_; rintro e w2 ⟨rfl, b2⟩; have U2 : Hid (UW g x l own w V1 E1 oa w2) := U1.out.later b2; clear b2; obtain ⟨y0, y1, y2, y3, y4⟩ := gb_cells U2.out.box)
    | (go_at_call 13; refine (MY.out _ U2.out.bel).mono ?_; rintro e w3 ⟨rfl, b3⟩; have U3 : Hid (UW g x l own w V1 E1 oa w3) := U2.out.later b3; clear b3 y0 y1 y2 y3 y4)
    | (go_at_call 16; refine (num14_P _ _).mono ?_; rintro e wn ⟨rfl, rfl⟩)
    | (go_at_call 14; refine (gintact _ V1 tyG E1 w3 U3.out.hg.inv U3.out.hg.st (by have := U3.out.hg.l1; have := HFI.out.ll; omega) (by have := U3.out.hg.l2; omega) (by have := U3.out.hg.l4; have := HFI.out.pl; omega)).mono ?_; rintro e w4 ⟨rfl, b4⟩; have U4 : Hid (UW g x l own w V1 E1 oa w4) := U3.out.later b4; clear b4)
    | (go_at_call 15; refine (works_P w4).mono ?_; rintro e w5 ⟨rfl, b5⟩; have U5 : Hid (UW g x l own w V1 E1 oa w5) := U4.out.later b5; clear b5))
   go_ret
   exact ⟨rfl, U5.out.bel⟩
end Go.Proofs.Ytlkkllehaabebaa
namespace Go.Proofs.Ytlkkllehaabebaa
set_option linter.unusedVariables false
set_option maxRecDepth 100000
set_option maxHeartbeats 16000000
open Go.RowKit Go.Maps
theorem UsO.conv {g x : GV} {l own : List DM} {w : World} {e : Ending} {w' : World} (h : UsO x own w e w') (hx : SameG g x) (hm : own.map DM.d = l.map DM.d) : UsO g l w e w' := by
 have hl : x.ls.length = g.ls.length := by simpa using congrArg List.length hx.ls
 obtain ⟨u1, u2⟩ := used_map (n := g.ls.length) hm
 unfold UsO at h ⊢
 rw [hl, u1, u2] at h
 exact h
theorem us_yes {g : GV} {l : List DM} {w : World} {e : Ending} {w' : World} (h : (l.all (usedB g.ls.length) = true /\ ∃ b, e = .returned (.tuple #[.slice (some ⟨b, 0, none⟩) g.ls.length g.ls.length, .int .i64 0]) /\ BB w' b (usedL g.ls.length l) /\ w.heap.size <= b) ∨ (l.all (usedB g.ls.length) = false /\ e = .returned (.tuple #[.slice none 0 0, .int .i64 37]))) (ha : l.all (usedB g.ls.length) = true) : ∃ b, e = .returned (.tuple #[.slice (some ⟨b, 0, none⟩) g.ls.length g.ls.length, .int .i64 0]) /\ BB w' b (usedL g.ls.length l) := by
 rcases h with ⟨_, b, h1, h2, _⟩ | ⟨h1, _⟩
 ·exact ⟨b, h1, h2⟩
 ·rw [ha] at h1
  cases h1
theorem us_not {g : GV} {l : List DM} {w : World} {e : Ending} {w' : World} (h : (l.all (usedB g.ls.length) = true /\ ∃ b, e = .returned (.tuple #[.slice (some ⟨b, 0, none⟩) g.ls.length g.ls.length, .int .i64 0]) /\ BB w' b (usedL g.ls.length l) /\ w.heap.size <= b) ∨ (l.all (usedB g.ls.length) = false /\ e = .returned (.tuple #[.slice none 0 0, .int .i64 37]))) (ha : l.all (usedB g.ls.length) = false) : e = .returned (.tuple #[.slice none 0 0, .int .i64 37]) := by
 rcases h with ⟨h1, _⟩ | ⟨_, h1⟩
 ·rw [ha] at h1
  cases h1
 ·exact h1
set_option linter.unusedSimpArgs false in
theorem uses_yes (g : GV) (ao : Option Addr) (cap : Nat) (l : List DM) (w : World) (h : GAt 140737488355328 w g) (hfi : GFine g) (hl : l.length <= 1048576) (hdd : ∀ x ∈ l, x.d.drop.length <= 1048576) (hr : DRow w ao l) (at_ : Int) (hE' : checkG g (checkF g.ts g.ns) = (0, at_)) (hab : l.all (usedB g.ls.length) = true) :
  Calls Try.prog 4 #[g.val, .slice ao l.length cap] w fun e w' => e = .returned (.bool true) /\ Below w.heap.size w w' := by
 have X0 : Hid ((w.alloc (gBox g)).heap[w.heap.size]? = some (gBox g)) := heap_alloc_new _ _
 have H0 : Hid (HG (w.heap.size + 1) (w.alloc (gBox g)) ((w.alloc (gBox g)).alloc gvBoxT) (w.heap.size + 1) (fun _ => hNil) (fun _ => []) 0 0 0) := by
  have := hg_newT (w.heap.size + 1) (w.alloc (gBox g)) (w.alloc (gBox g)) (Below.refl _ _) (by simp)
  rw [show (w.alloc (gBox g)).heap.size = w.heap.size + 1 by simp] at this
  exact this
 have O0 : Hid (OW g l w 0 [] (fun _ => hNil) (fun _ => []) (.slice none 0 0) ((w.alloc (gBox g)).alloc gvBoxT)) := ⟨H0.out, blk_later X0.out (below_alloc _ _), (below_alloc w _).trans ((below_alloc _ _).mono (below_alloc w _).size), RO.nil _, nil_own _, rfl, fun x hx => absurd hx List.not_mem_nil⟩
 have HR : Hid (∀ w', Below w.heap.size w w' -> DRow w' ao l) := fun w' hb => hr.later hb
 have HDD : Hid (∀ x ∈ l, x.d.drop.length <= 1048576) := hdd
 obtain ⟨er, her⟩ : ∃ er : Int, er = 0 := ⟨0, rfl⟩
 have hE : checkG g (checkF g.ts g.ns) = (er, at_) := by rw [her]; exact hE'
 have HFI : Hid (GFine g) := hfi
 have B0 : Hid (∀ wr, Below w.heap.size w wr -> GAt 140737488355328 wr g) := fun wr hb => h.later hb
 have HXA : Hid (∀ x own V E oa wr, UW g x l own w V E oa wr -> GAt 140737488355328 wr x /\ x.ps.length <= x.pc /\ checkG x (checkF x.ts x.ns) = (er, at_)) := fun x own V E oa wr k => ⟨(k.gx.at k.same h).1, (k.gx.at k.same h).2, (same_check k.same).trans hE⟩
 have MY : Hid (∀ wr, Below w.heap.size w wr -> Calls Try.prog 13 #[g.val] wr fun e w' => e = .returned (.int .i64 er) /\ Below wr.heap.size wr w') := fun wr hb => by
  have := refmay_G g wr (h.later hb)
  rwa [hE] at this
 have ok : OkC g := OkC.of (by rw [hE'])
 have hll := ok.ll
 have HUX : Hid (∀ x own V E oa oc wr, UW g x l own w V E oa wr -> own.map DM.d = l.map DM.d -> Calls Try.prog 23 #[x.val, .slice oa l.length oc] wr (UsO g l wr)) := fun x own V E oa oc wr k hm => by
  have e : own.length = l.length := by have := congrArg List.length hm; simpa using this
  have := Used_ok x oa oc own wr (k.gx.at k.same h).1 (k.gx.at k.same h).2 at_ ((same_check k.same).trans hE') (by omega) k.dr
  rw [e] at this
  exact this.mono fun e w' hu => hu.conv k.same hm
 have HUR : Hid (∀ wr, Below w.heap.size w wr -> Calls Try.prog 24 #[g.val, .slice ao l.length cap] wr (UsO g l wr)) := fun wr hb => rUsed_P g ao cap l wr hll (by omega) (hr.later hb)
 have HAL : Hid (∀ own oa oc wr, Below w.heap.size w wr -> own.map DM.d = l.map DM.d -> DRow wr oa own -> Calls Try.prog 26 #[.slice oa l.length oc, .slice ao l.length cap] wr fun e w' => e = .returned (.bool true) /\ Below wr.heap.size wr w') := fun own oa oc wr hb hm hd => by
  have e : own.length = l.length := by have := congrArg List.length hm; simpa using this
  have q2 : ∀ x ∈ own, x.d.drop.length <= 140737488355328 := fun x hx => by
   have : x.d ∈ own.map DM.d := List.mem_map_of_mem hx
   rw [hm] at this
   obtain ⟨y, hy, ey⟩ := List.mem_map.1 this
   rw [<- ey]
   have := hdd y hy
   omega
  have := all_P oa ao oc cap own l wr (by omega) hm q2 hd (hr.later hb)
  rwa [e] at this
 have HSB : Hid (∀ wr a b (L : List Bool), L.length <= 32 -> BRow wr a L -> BRow wr b L -> ∀ c1 c2, Calls Try.prog 25 #[.slice a L.length c1, .slice b L.length c2] wr fun e w' => e = .returned (.bool true) /\ Below wr.heap.size wr w') := fun wr a b L hL h1 h2 c1 c2 => (samebools_S a b c1 c2 L wr (by omega) h1 h2).mono fun e w' ⟨q1, d, q2⟩ => ⟨q1, by rw [q2]; exact below_drewN (Below.refl _ _) d⟩
 have t1 : ((0 : Int) != 0) = false := by decide
 have t3 : ((0 : Int) == 0) = true := by decide
 have t4 : ((37 : Int) == 37) = true := by decide
 have HAB : Hid (l.all (usedB g.ls.length) = true) := hab
 have HLL : Hid (g.ls.length <= 32) := hll
 subst her
 clear h hfi hE hE' hr hdd ok hab
 go_enter Try.func4, Try.ntmps4
 go_wp2
 go_loopw [6, 7] (fun y z wr => ∃ (k : Nat) (own : List DM) (V : Nat -> Value) (E : Nat -> List HE) (oa : Option Addr) (oc : Nat), k <= l.length /\ z = .int .i64 k /\ y = .slice oa k oc /\ OW g l w k own V E (.slice oa k oc) wr) (fun _ z _ => l.length - (intOf z).toNat)
 case atStart => exact ⟨0, [], _, _, _, _, Nat.zero_le _, rfl, rfl, O0.out⟩
 case round =>
  clear O0 H0 X0
  obtain ⟨k, own, V, E, oa, oc, hk, rfl, rfl, hO⟩ := hrel
  have HO : Hid (OW g l w k own V E (.slice oa k oc) wr) := hO
  by_cases hlt : k < l.length
  ·obtain ⟨rb, ro, hao, hrb, hrc⟩ := (HR.out wr hO.bel).cells (by intro e; rw [e] at hlt; simp at hlt)
   obtain ⟨c0, c1, c2, c3, c4, c5⟩ := hrc k hlt
   have klt : (k : Int) < (l.length : Int) := by omega
   have EM : l[k] ∈ l := List.getElem_mem hlt
   have HRW := (HR.out wr hO.bel).rows _ EM
   have HDx := HDD.out _ EM
   have ET : (l.take (k + 1)).map DM.d = (l.take k).map DM.d ++ [l[k].d] := by rw [List.take_succ_eq_append_getElem hlt, List.map_append]; rfl
   rw [hao]
   clear hrc EM hO
   generalize hx : l[k] = x at *
   obtain ⟨⟨xl, xk, xp, xd, xs, xv⟩, xa, xc⟩ := x
   simp only at c0 c1 c2 c3 c4 c5 HRW HDx ET
   have EX : Hid (l[k].d = ⟨xl, xk, xp, xd, xs, xv⟩) := by show _ = _; rw [hx]
   clear hx ET
   have W1g : Hid (HG (w.heap.size + 1) (w.alloc (gBox g)) (wr.alloc (.cells #[.int .i64 xl, .int .i64 xk, .int .i64 xp, .slice xa xd.length xc, .bool xs, .int .i64 xv] 47)) (w.heap.size + 1) V E k 0 0 /\ (wr.alloc (.cells #[.int .i64 xl, .int .i64 xk, .int .i64 xp, .slice xa xd.length xc, .bool xs, .int .i64 xv] 47)).heap[wr.heap.size]? = some (.cells #[.int .i64 xl, .int .i64 xk, .int .i64 xp, .slice xa xd.length xc, .bool xs, .int .i64 xv] 47 (0, 0)) /\ InRow (wr.alloc (.cells #[.int .i64 xl, .int .i64 xk, .int .i64 xp, .slice xa xd.length xc, .bool xs, .int .i64 xv] 47)) xa xd /\ (wr.alloc (.cells #[.int .i64 xl, .int .i64 xk, .int .i64 xp, .slice xa xd.length xc, .bool xs, .int .i64 xv] 47)).heap.size = wr.heap.size + 1) := ⟨HO.out.hg.later (below_alloc _ _), heap_alloc_new _ _, HRW.later (below_alloc _ _), alZ _ _⟩
   have IC1 : Hid (Calls Try.prog 22 #[.pointer (some ⟨w.heap.size + 1, 0, none⟩), .slice xa xd.length xc] (wr.alloc (.cells #[.int .i64 xl, .int .i64 xk, .int .i64 xp, .slice xa xd.length xc, .bool xs, .int .i64 xv] 47)) fun e w' => e = .returned (.slice (some ⟨wr.heap.size + 1, 0, none⟩) xd.length (xd.length + 3)) /\ (∃ V' E', HG (w.heap.size + 1) (w.alloc (gBox g)) w' (w.heap.size + 1) V' E' (k + 1) 0 0) /\ Oth (wr.alloc (.cells #[.int .i64 xl, .int .i64 xk, .int .i64 xp, .slice xa xd.length xc, .bool xs, .int .i64 xv] 47)) w' /\ Below (w.heap.size + 1) (wr.alloc (.cells #[.int .i64 xl, .int .i64 xk, .int .i64 xp, .slice xa xd.length xc, .bool xs, .int .i64 xv] 47)) w' /\ NB w' (wr.heap.size + 1) xd) := by
    have := hg_intF W1g.out.1 (by omega) xa xc xd (by omega) W1g.out.2.2.1
    rw [W1g.out.2.2.2] at this
    exact this.mono fun e w' ⟨a1, ⟨V', E', a2, _⟩, a3, a4, a5⟩ => ⟨a1, ⟨V', E', a2⟩, a3, a4, a5⟩
   clear HRW
   have HLn : Hid (own.length = k) := by have := congrArg List.length HO.out.ds; rw [List.length_map, List.length_map, List.length_take] at this; show _ = _; omega
   go_wp2_with (first
    | (go_at_call 22; refine IC1.out.mono ?_; rintro e w2 ⟨rfl, ⟨V2, E2, h2⟩, o2, b2, n2⟩; have S2 : Hid (HG (w.heap.size + 1) (w.alloc (gBox g)) w2 (w.heap.size + 1) V2 E2 (k + 1) 0 0 /\ Oth (wr.alloc (.cells #[.int .i64 xl, .int .i64 xk, .int .i64 xp, .slice xa xd.length xc, .bool xs, .int .i64 xv] 47)) w2 /\ NB w2 (wr.heap.size + 1) xd /\ w2.heap[wr.heap.size]? = some (.cells #[.int .i64 xl, .int .i64 xk, .int .i64 xp, .slice xa xd.length xc, .bool xs, .int .i64 xv] 47 (0, 0)) /\ Below (w.heap.size + 1) (wr.alloc (.cells #[.int .i64 xl, .int .i64 xk, .int .i64 xp, .slice xa xd.length xc, .bool xs, .int .i64 xv] 47)) w2) := ⟨h2, o2, n2, (o2.blk _ _ _ W1g.out.2.1 okT_dec).trans W1g.out.2.1, b2⟩; clear h2 o2 n2 b2 c0 c1 c2 c3 c4 c5; have z0 : w2.cell? ⟨wr.heap.size, 0, none⟩ = some (.int .i64 xl) := (cellq_any S2.out.2.2.2.1).trans rfl; have z1 : w2.cell? ⟨wr.heap.size, 1, none⟩ = some (.int .i64 xk) := (cellq_any S2.out.2.2.2.1).trans rfl; have z2 : w2.cell? ⟨wr.heap.size, 2, none⟩ = some (.int .i64 xp) := (cellq_any S2.out.2.2.2.1).trans rfl; have z3 : w2.cell? ⟨wr.heap.size, 3, none⟩ = some (.slice xa xd.length xc) := (cellq_any S2.out.2.2.2.1).trans rfl; have z4 : w2.cell? ⟨wr.heap.size, 4, none⟩ = some (.bool xs) := (cellq_any S2.out.2.2.2.1).trans rfl; have z5 : w2.cell? ⟨wr.heap.size, 5, none⟩ = some (.int .i64 xv) := (cellq_any S2.out.2.2.2.1).trans rfl; have f3 := frostS S2.out.2.2.2.1 3; have hz3 := lt_of_block S2.out.2.2.2.1)
    | (at_builtin; refine wpList_ro_append rkDec rfl _ _ rfl (.slice oa k oc) own rfl (HO.out.ro4 S2.out.2.1 S2.out.2.2.2.2 (.slice (some ⟨wr.heap.size + 1, 0, none⟩) xd.length (xd.length + 3)) (.cells #[.int .i64 xl, .int .i64 xk, .int .i64 xp, .slice (some ⟨wr.heap.size + 1, 0, none⟩) xd.length (xd.length + 3), .bool xs, .int .i64 xv] 47)) w2.heap.size 1 ⟨⟨xl, xk, xp, xd, xs, xv⟩, some ⟨wr.heap.size + 1, 0, none⟩, xd.length + 3⟩ rfl (app_cells _ _ _ (by simp)) (by have := HLn.out; omega) ?_; intro a6 n6 c6 w6 ho6 hg6; have O6 : Hid (OW g l w (k + 1) (own ++ [(⟨⟨xl, xk, xp, xd, xs, xv⟩, some ⟨wr.heap.size + 1, 0, none⟩, xd.length + 3⟩ : DM)]) V2 E2 (.slice a6 n6 c6) w6) := HO.out.step hlt S2.out.1 S2.out.2.1 S2.out.2.2.2.2 EX.out S2.out.2.2.1 (.slice (some ⟨wr.heap.size + 1, 0, none⟩) xd.length (xd.length + 3)) (.cells #[.int .i64 xl, .int .i64 xk, .int .i64 xp, .slice (some ⟨wr.heap.size + 1, 0, none⟩) xd.length (xd.length + 3), .bool xs, .int .i64 xv] 47) hg6 ho6; clear ho6 hg6 z0 z1 z2 z3 z4 z5 f3 hz3 S2))
   obtain ⟨a7, c7, e7, _⟩ := O6.out.ro.len
   have HL6 : (own ++ [(⟨⟨xl, xk, xp, xd, xs, xv⟩, some ⟨wr.heap.size + 1, 0, none⟩, xd.length + 3⟩ : DM)]).length = k + 1 := by rw [List.length_append, HLn.out]; rfl
   rw [HL6] at e7
   have e8 : n6 = k + 1 := by simp only [Value.slice.injEq] at e7; exact e7.2.1
   subst e8
   clear e7 HL6
   go_wp2
   go_roundw
   case rel => exact ⟨k + 1, _, _, _, _, _, by omega, by go_num, rfl, O6.out⟩
   case measure => simp [intOf]; omega
  ·obtain rfl : k = l.length := by omega
   have klt : ¬ (l.length : Int) < (l.length : Int) := by omega
   clear hO
   have HMD : Hid (own.map DM.d = l.map DM.d) := by have := HO.out.ds; rwa [List.take_length] at this
   obtain ⟨y0, y1, y2, y3, y4⟩ := gb_cells HO.out.gb
   go_wp2_with (first
    | (go_at_call 8; refine (hg_gram HO.out.hg (by omega) (by omega) (by omega) g HFI.out (fun wr2 hb => B0.out wr2 (HO.out.bel.trans (hb.mono (by omega))))).mono ?_; rintro e w1 ⟨x, rfl, hs, hx, ho⟩; obtain ⟨V1, E1, k1⟩ := ho.ex; have U1 : Hid (UW g x l own w V1 E1 oa w1) := ⟨HO.out.bel.trans (ho.bel.mono (by omega)), (ho.oth.blk _ _ _ HO.out.gb okT_gram).trans HO.out.gb, k1, hs, hx, HO.out.drow ho.oth⟩; clear hs hx ho k1 y0 y1 y2 y3 y4)
    | (go_at_call 23; refine (HUX.out _ _ _ _ _ _ _ U1.out HMD.out).mono ?_; rintro e w2 ⟨hu, b2⟩; obtain ⟨ub, rfl, hB⟩ := us_yes hu HAB.out; have U2 : Hid (UW g x l own w V1 E1 oa w2 /\ BB w2 ub (usedL g.ls.length l)) := ⟨U1.out.later b2, hB⟩; clear b2 hu hB; obtain ⟨y0, y1, y2, y3, y4⟩ := gb_cells U2.out.1.box)
    | (go_at_call 13; refine (MY.out _ U2.out.1.bel).mono ?_; rintro e w3 ⟨rfl, b3⟩; have U3 : Hid (UW g x l own w V1 E1 oa w3 /\ BB w3 ub (usedL g.ls.length l)) := ⟨U2.out.1.later b3, U2.out.2.later b3⟩; clear b3 y0 y1 y2 y3 y4; obtain ⟨y0, y1, y2, y3, y4⟩ := gb_cells U3.out.1.box)
    | (go_at_call 16; refine (num14_P _ _).mono ?_; rintro e wn ⟨rfl, rfl⟩)
    | (go_at_call 24; refine (HUR.out _ U3.out.1.bel).mono ?_; rintro e w4 ⟨hu, b4⟩; obtain ⟨vb, rfl, hB⟩ := us_yes hu HAB.out; have U4 : Hid (UW g x l own w V1 E1 oa w4 /\ BRow w4 (some ⟨ub, 0, none⟩) (usedL g.ls.length l) /\ BRow w4 (some ⟨vb, 0, none⟩) (usedL g.ls.length l)) := ⟨U3.out.1.later b4, (U3.out.2.later b4).row, hB.row⟩; clear b4 hu hB y0 y1 y2 y3 y4)
    | (go_at_call 25; refine ((by have := HSB.out w4 (some ⟨ub, 0, none⟩) (some ⟨vb, 0, none⟩) (usedL g.ls.length l) (by rw [usedL_len]; exact HLL.out) U4.out.2.1 U4.out.2.2 g.ls.length g.ls.length; rwa [usedL_len] at this : Calls Try.prog 25 #[.slice (some ⟨ub, 0, none⟩) g.ls.length g.ls.length, .slice (some ⟨vb, 0, none⟩) g.ls.length g.ls.length] w4 fun e w' => e = .returned (.bool true) /\ Below w4.heap.size w4 w')).mono ?_; rintro e w5 ⟨rfl, b5⟩; have U5 : Hid (UW g x l own w V1 E1 oa w5) := U4.out.1.later b5; clear b5)
    | (go_at_call 26; refine (HAL.out own oa oc w5 U5.out.bel HMD.out U5.out.dr).mono ?_; rintro e w6 ⟨rfl, b6⟩; have U6 : Hid (UW g x l own w V1 E1 oa w6) := U5.out.later b6; clear b6)
    | (go_at_call 14; refine (gintact _ V1 tyG E1 w6 U6.out.hg.inv U6.out.hg.st (by have := U6.out.hg.l1; have := HFI.out.ll; omega) (by have := U6.out.hg.l2; omega) (by have := U6.out.hg.l4; have := HFI.out.pl; omega)).mono ?_; rintro e w7 ⟨rfl, b7⟩; have U7 : Hid (UW g x l own w V1 E1 oa w7) := U6.out.later b7; clear b7)
    | (go_at_call 15; refine (works_P w7).mono ?_; rintro e w8 ⟨rfl, b8⟩; have U8 : Hid (UW g x l own w V1 E1 oa w8) := U7.out.later b8; clear b8))
   go_ret
   exact ⟨rfl, U8.out.bel⟩
set_option linter.unusedSimpArgs false in
theorem uses_wrong (g : GV) (ao : Option Addr) (cap : Nat) (l : List DM) (w : World) (h : GAt 140737488355328 w g) (hfi : GFine g) (hl : l.length <= 1048576) (hdd : ∀ x ∈ l, x.d.drop.length <= 1048576) (hr : DRow w ao l) (at_ : Int) (hE' : checkG g (checkF g.ts g.ns) = (0, at_)) (hab : l.all (usedB g.ls.length) = false) :
  Calls Try.prog 4 #[g.val, .slice ao l.length cap] w fun e w' => e = .returned (.bool true) /\ Below w.heap.size w w' := by
 have X0 : Hid ((w.alloc (gBox g)).heap[w.heap.size]? = some (gBox g)) := heap_alloc_new _ _
 have H0 : Hid (HG (w.heap.size + 1) (w.alloc (gBox g)) ((w.alloc (gBox g)).alloc gvBoxT) (w.heap.size + 1) (fun _ => hNil) (fun _ => []) 0 0 0) := by
  have := hg_newT (w.heap.size + 1) (w.alloc (gBox g)) (w.alloc (gBox g)) (Below.refl _ _) (by simp)
  rw [show (w.alloc (gBox g)).heap.size = w.heap.size + 1 by simp] at this
  exact this
 have O0 : Hid (OW g l w 0 [] (fun _ => hNil) (fun _ => []) (.slice none 0 0) ((w.alloc (gBox g)).alloc gvBoxT)) := ⟨H0.out, blk_later X0.out (below_alloc _ _), (below_alloc w _).trans ((below_alloc _ _).mono (below_alloc w _).size), RO.nil _, nil_own _, rfl, fun x hx => absurd hx List.not_mem_nil⟩
 have HR : Hid (∀ w', Below w.heap.size w w' -> DRow w' ao l) := fun w' hb => hr.later hb
 have HDD : Hid (∀ x ∈ l, x.d.drop.length <= 1048576) := hdd
 obtain ⟨er, her⟩ : ∃ er : Int, er = 0 := ⟨0, rfl⟩
 have hE : checkG g (checkF g.ts g.ns) = (er, at_) := by rw [her]; exact hE'
 have HFI : Hid (GFine g) := hfi
 have B0 : Hid (∀ wr, Below w.heap.size w wr -> GAt 140737488355328 wr g) := fun wr hb => h.later hb
 have HXA : Hid (∀ x own V E oa wr, UW g x l own w V E oa wr -> GAt 140737488355328 wr x /\ x.ps.length <= x.pc /\ checkG x (checkF x.ts x.ns) = (er, at_)) := fun x own V E oa wr k => ⟨(k.gx.at k.same h).1, (k.gx.at k.same h).2, (same_check k.same).trans hE⟩
 have MY : Hid (∀ wr, Below w.heap.size w wr -> Calls Try.prog 13 #[g.val] wr fun e w' => e = .returned (.int .i64 er) /\ Below wr.heap.size wr w') := fun wr hb => by
  have := refmay_G g wr (h.later hb)
  rwa [hE] at this
 have ok : OkC g := OkC.of (by rw [hE'])
 have hll := ok.ll
 have HUX : Hid (∀ x own V E oa oc wr, UW g x l own w V E oa wr -> own.map DM.d = l.map DM.d -> Calls Try.prog 23 #[x.val, .slice oa l.length oc] wr (UsO g l wr)) := fun x own V E oa oc wr k hm => by
  have e : own.length = l.length := by have := congrArg List.length hm; simpa using this
  have := Used_ok x oa oc own wr (k.gx.at k.same h).1 (k.gx.at k.same h).2 at_ ((same_check k.same).trans hE') (by omega) k.dr
  rw [e] at this
  exact this.mono fun e w' hu => hu.conv k.same hm
 have HUR : Hid (∀ wr, Below w.heap.size w wr -> Calls Try.prog 24 #[g.val, .slice ao l.length cap] wr (UsO g l wr)) := fun wr hb => rUsed_P g ao cap l wr hll (by omega) (hr.later hb)
 have HAL : Hid (∀ own oa oc wr, Below w.heap.size w wr -> own.map DM.d = l.map DM.d -> DRow wr oa own -> Calls Try.prog 26 #[.slice oa l.length oc, .slice ao l.length cap] wr fun e w' => e = .returned (.bool true) /\ Below wr.heap.size wr w') := fun own oa oc wr hb hm hd => by
  have e : own.length = l.length := by have := congrArg List.length hm; simpa using this
  have q2 : ∀ x ∈ own, x.d.drop.length <= 140737488355328 := fun x hx => by
   have : x.d ∈ own.map DM.d := List.mem_map_of_mem hx
   rw [hm] at this
   obtain ⟨y, hy, ey⟩ := List.mem_map.1 this
   rw [<- ey]
   have := hdd y hy
   omega
  have := all_P oa ao oc cap own l wr (by omega) hm q2 hd (hr.later hb)
  rwa [e] at this
 have HSB : Hid (∀ wr a b (L : List Bool), L.length <= 32 -> BRow wr a L -> BRow wr b L -> ∀ c1 c2, Calls Try.prog 25 #[.slice a L.length c1, .slice b L.length c2] wr fun e w' => e = .returned (.bool true) /\ Below wr.heap.size wr w') := fun wr a b L hL h1 h2 c1 c2 => (samebools_S a b c1 c2 L wr (by omega) h1 h2).mono fun e w' ⟨q1, d, q2⟩ => ⟨q1, by rw [q2]; exact below_drewN (Below.refl _ _) d⟩
 have t1 : ((0 : Int) != 0) = false := by decide
 have t3 : ((0 : Int) == 0) = true := by decide
 have t4 : ((37 : Int) == 37) = true := by decide
 have HAB : Hid (l.all (usedB g.ls.length) = false) := hab
 have HLL : Hid (g.ls.length <= 32) := hll
 subst her
 clear h hfi hE hE' hr hdd ok hab
 go_enter Try.func4, Try.ntmps4
 go_wp2
 go_loopw [6, 7] (fun y z wr => ∃ (k : Nat) (own : List DM) (V : Nat -> Value) (E : Nat -> List HE) (oa : Option Addr) (oc : Nat), k <= l.length /\ z = .int .i64 k /\ y = .slice oa k oc /\ OW g l w k own V E (.slice oa k oc) wr) (fun _ z _ => l.length - (intOf z).toNat)
 case atStart => exact ⟨0, [], _, _, _, _, Nat.zero_le _, rfl, rfl, O0.out⟩
 case round =>
  clear O0 H0 X0
  obtain ⟨k, own, V, E, oa, oc, hk, rfl, rfl, hO⟩ := hrel
  have HO : Hid (OW g l w k own V E (.slice oa k oc) wr) := hO
  by_cases hlt : k < l.length
  ·obtain ⟨rb, ro, hao, hrb, hrc⟩ := (HR.out wr hO.bel).cells (by intro e; rw [e] at hlt; simp at hlt)
   obtain ⟨c0, c1, c2, c3, c4, c5⟩ := hrc k hlt
   have klt : (k : Int) < (l.length : Int) := by omega
   have EM : l[k] ∈ l := List.getElem_mem hlt
   have HRW := (HR.out wr hO.bel).rows _ EM
   have HDx := HDD.out _ EM
   have ET : (l.take (k + 1)).map DM.d = (l.take k).map DM.d ++ [l[k].d] := by rw [List.take_succ_eq_append_getElem hlt, List.map_append]; rfl
   rw [hao]
   clear hrc EM hO
   generalize hx : l[k] = x at *
   obtain ⟨⟨xl, xk, xp, xd, xs, xv⟩, xa, xc⟩ := x
   simp only at c0 c1 c2 c3 c4 c5 HRW HDx ET
   have EX : Hid (l[k].d = ⟨xl, xk, xp, xd, xs, xv⟩) := by show _ = _; rw [hx]
   clear hx ET
   have W1g : Hid (HG (w.heap.size + 1) (w.alloc (gBox g)) (wr.alloc (.cells #[.int .i64 xl, .int .i64 xk, .int .i64 xp, .slice xa xd.length xc, .bool xs, .int .i64 xv] 47)) (w.heap.size + 1) V E k 0 0 /\ (wr.alloc (.cells #[.int .i64 xl, .int .i64 xk, .int .i64 xp, .slice xa xd.length xc, .bool xs, .int .i64 xv] 47)).heap[wr.heap.size]? = some (.cells #[.int .i64 xl, .int .i64 xk, .int .i64 xp, .slice xa xd.length xc, .bool xs, .int .i64 xv] 47 (0, 0)) /\ InRow (wr.alloc (.cells #[.int .i64 xl, .int .i64 xk, .int .i64 xp, .slice xa xd.length xc, .bool xs, .int .i64 xv] 47)) xa xd /\ (wr.alloc (.cells #[.int .i64 xl, .int .i64 xk, .int .i64 xp, .slice xa xd.length xc, .bool xs, .int .i64 xv] 47)).heap.size = wr.heap.size + 1) := ⟨HO.out.hg.later (below_alloc _ _), heap_alloc_new _ _, HRW.later (below_alloc _ _), alZ _ _⟩
   have IC1 : Hid (Calls Try.prog 22 #[.pointer (some ⟨w.heap.size + 1, 0, none⟩), .slice xa xd.length xc] (wr.alloc (.cells #[.int .i64 xl, .int .i64 xk, .int .i64 xp, .slice xa xd.length xc, .bool xs, .int .i64 xv] 47)) fun e w' => e = .returned (.slice (some ⟨wr.heap.size + 1, 0, none⟩) xd.length (xd.length + 3)) /\ (∃ V' E', HG (w.heap.size + 1) (w.alloc (gBox g)) w' (w.heap.size + 1) V' E' (k + 1) 0 0) /\ Oth (wr.alloc (.cells #[.int .i64 xl, .int .i64 xk, .int .i64 xp, .slice xa xd.length xc, .bool xs, .int .i64 xv] 47)) w' /\ Below (w.heap.size + 1) (wr.alloc (.cells #[.int .i64 xl, .int .i64 xk, .int .i64 xp, .slice xa xd.length xc, .bool xs, .int .i64 xv] 47)) w' /\ NB w' (wr.heap.size + 1) xd) := by
    have := hg_intF W1g.out.1 (by omega) xa xc xd (by omega) W1g.out.2.2.1
    rw [W1g.out.2.2.2] at this
    exact this.mono fun e w' ⟨a1, ⟨V', E', a2, _⟩, a3, a4, a5⟩ => ⟨a1, ⟨V', E', a2⟩, a3, a4, a5⟩
   clear HRW
   have HLn : Hid (own.length = k) := by have := congrArg List.length HO.out.ds; rw [List.length_map, List.length_map, List.length_take] at this; show _ = _; omega
   go_wp2_with (first
    | (go_at_call 22; refine IC1.out.mono ?_; rintro e w2 ⟨rfl, ⟨V2, E2, h2⟩, o2, b2, n2⟩; have S2 : Hid (HG (w.heap.size + 1) (w.alloc (gBox g)) w2 (w.heap.size + 1) V2 E2 (k + 1) 0 0 /\ Oth (wr.alloc (.cells #[.int .i64 xl, .int .i64 xk, .int .i64 xp, .slice xa xd.length xc, .bool xs, .int .i64 xv] 47)) w2 /\ NB w2 (wr.heap.size + 1) xd /\ w2.heap[wr.heap.size]? = some (.cells #[.int .i64 xl, .int .i64 xk, .int .i64 xp, .slice xa xd.length xc, .bool xs, .int .i64 xv] 47 (0, 0)) /\ Below (w.heap.size + 1) (wr.alloc (.cells #[.int .i64 xl, .int .i64 xk, .int .i64 xp, .slice xa xd.length xc, .bool xs, .int .i64 xv] 47)) w2) := ⟨h2, o2, n2, (o2.blk _ _ _ W1g.out.2.1 okT_dec).trans W1g.out.2.1, b2⟩; clear h2 o2 n2 b2 c0 c1 c2 c3 c4 c5; have z0 : w2.cell? ⟨wr.heap.size, 0, none⟩ = some (.int .i64 xl) := (cellq_any S2.out.2.2.2.1).trans rfl; have z1 : w2.cell? ⟨wr.heap.size, 1, none⟩ = some (.int .i64 xk) := (cellq_any S2.out.2.2.2.1).trans rfl; have z2 : w2.cell? ⟨wr.heap.size, 2, none⟩ = some (.int .i64 xp) := (cellq_any S2.out.2.2.2.1).trans rfl; have z3 : w2.cell? ⟨wr.heap.size, 3, none⟩ = some (.slice xa xd.length xc) := (cellq_any S2.out.2.2.2.1).trans rfl; have z4 : w2.cell? ⟨wr.heap.size, 4, none⟩ = some (.bool xs) := (cellq_any S2.out.2.2.2.1).trans rfl; have z5 : w2.cell? ⟨wr.heap.size, 5, none⟩ = some (.int .i64 xv) := (cellq_any S2.out.2.2.2.1).trans rfl; have f3 := frostS S2.out.2.2.2.1 3; have hz3 := lt_of_block S2.out.2.2.2.1)
    | (at_builtin; refine wpList_ro_append rkDec rfl _ _ rfl (.slice oa k oc) own rfl (HO.out.ro4 S2.out.2.1 S2.out.2.2.2.2 (.slice (some ⟨wr.heap.size + 1, 0, none⟩) xd.length (xd.length + 3)) (.cells #[.int .i64 xl, .int .i64 xk, .int .i64 xp, .slice (some ⟨wr.heap.size + 1, 0, none⟩) xd.length (xd.length + 3), .bool xs, .int .i64 xv] 47)) w2.heap.size 1 ⟨⟨xl, xk, xp, xd, xs, xv⟩, some ⟨wr.heap.size + 1, 0, none⟩, xd.length + 3⟩ rfl (app_cells _ _ _ (by simp)) (by have := HLn.out; omega) ?_; intro a6 n6 c6 w6 ho6 hg6; have O6 : Hid (OW g l w (k + 1) (own ++ [(⟨⟨xl, xk, xp, xd, xs, xv⟩, some ⟨wr.heap.size + 1, 0, none⟩, xd.length + 3⟩ : DM)]) V2 E2 (.slice a6 n6 c6) w6) := HO.out.step hlt S2.out.1 S2.out.2.1 S2.out.2.2.2.2 EX.out S2.out.2.2.1 (.slice (some ⟨wr.heap.size + 1, 0, none⟩) xd.length (xd.length + 3)) (.cells #[.int .i64 xl, .int .i64 xk, .int .i64 xp, .slice (some ⟨wr.heap.size + 1, 0, none⟩) xd.length (xd.length + 3), .bool xs, .int .i64 xv] 47) hg6 ho6; clear ho6 hg6 z0 z1 z2 z3 z4 z5 f3 hz3 S2))
   obtain ⟨a7, c7, e7, _⟩ := O6.out.ro.len
   have HL6 : (own ++ [(⟨⟨xl, xk, xp, xd, xs, xv⟩, some ⟨wr.heap.size + 1, 0, none⟩, xd.length + 3⟩ : DM)]).length = k + 1 := by rw [List.length_append, HLn.out]; rfl
   rw [HL6] at e7
   have e8 : n6 = k + 1 := by simp only [Value.slice.injEq] at e7; exact e7.2.1
   subst e8
   clear e7 HL6
   go_wp2
   go_roundw
   case rel => exact ⟨k + 1, _, _, _, _, _, by omega, by go_num, rfl, O6.out⟩
   case measure => simp [intOf]; omega
  ·obtain rfl : k = l.length := by omega
   have klt : ¬ (l.length : Int) < (l.length : Int) := by omega
   clear hO
   have HMD : Hid (own.map DM.d = l.map DM.d) := by have := HO.out.ds; rwa [List.take_length] at this
   obtain ⟨y0, y1, y2, y3, y4⟩ := gb_cells HO.out.gb
   go_wp2_with (first
    | (go_at_call 8; refine (hg_gram HO.out.hg (by omega) (by omega) (by omega) g HFI.out (fun wr2 hb => B0.out wr2 (HO.out.bel.trans (hb.mono (by omega))))).mono ?_; rintro e w1 ⟨x, rfl, hs, hx, ho⟩; obtain ⟨V1, E1, k1⟩ := ho.ex; have U1 : Hid (UW g x l own w V1 E1 oa w1) := ⟨HO.out.bel.trans (ho.bel.mono (by omega)), (ho.oth.blk _ _ _ HO.out.gb okT_gram).trans HO.out.gb, k1, hs, hx, HO.out.drow ho.oth⟩; clear hs hx ho k1 y0 y1 y2 y3 y4)
    | (go_at_call 23; refine (HUX.out _ _ _ _ _ _ _ U1.out HMD.out).mono ?_; rintro e w2 ⟨hu, b2⟩; obtain rfl := us_not hu HAB.out; have U2 : Hid (UW g x l own w V1 E1 oa w2) := U1.out.later b2; clear b2 hu; obtain ⟨y0, y1, y2, y3, y4⟩ := gb_cells U2.out.box)
    | (go_at_call 13; refine (MY.out _ U2.out.bel).mono ?_; rintro e w3 ⟨rfl, b3⟩; have U3 : Hid (UW g x l own w V1 E1 oa w3) := U2.out.later b3; clear b3 y0 y1 y2 y3 y4; obtain ⟨y0, y1, y2, y3, y4⟩ := gb_cells U3.out.box)
    | (go_at_call 16; refine (num14_P _ _).mono ?_; rintro e wn ⟨rfl, rfl⟩)
    | (go_at_call 24; refine (HUR.out _ U3.out.bel).mono ?_; rintro e w4 ⟨hu, b4⟩; obtain rfl := us_not hu HAB.out; have U4 : Hid (UW g x l own w V1 E1 oa w4) := U3.out.later b4; clear b4 hu y0 y1 y2 y3 y4)
    | (go_at_call 25; refine (HSB.out w4 none none [] (by simp) (fun hn => absurd rfl hn) (fun hn => absurd rfl hn) 0 0).mono ?_; rintro e w5 ⟨rfl, b5⟩; have U5 : Hid (UW g x l own w V1 E1 oa w5) := U4.out.later b5; clear b5)
    | (go_at_call 26; refine (HAL.out own oa oc w5 U5.out.bel HMD.out U5.out.dr).mono ?_; rintro e w6 ⟨rfl, b6⟩; have U6 : Hid (UW g x l own w V1 E1 oa w6) := U5.out.later b6; clear b6)
    | (go_at_call 14; refine (gintact _ V1 tyG E1 w6 U6.out.hg.inv U6.out.hg.st (by have := U6.out.hg.l1; have := HFI.out.ll; omega) (by have := U6.out.hg.l2; omega) (by have := U6.out.hg.l4; have := HFI.out.pl; omega)).mono ?_; rintro e w7 ⟨rfl, b7⟩; have U7 : Hid (UW g x l own w V1 E1 oa w7) := U6.out.later b7; clear b7)
    | (go_at_call 15; refine (works_P w7).mono ?_; rintro e w8 ⟨rfl, b8⟩; have U8 : Hid (UW g x l own w V1 E1 oa w8) := U7.out.later b8; clear b8))
   go_ret
   exact ⟨rfl, U8.out.bel⟩
theorem uses_walk (g : GV) (ao : Option Addr) (cap : Nat) (l : List DM) (w : World) (h : GAt 140737488355328 w g) (hfi : GFine g) (hl : l.length <= 1048576) (hdd : ∀ x ∈ l, x.d.drop.length <= 1048576) (hr : DRow w ao l) :
  Calls Try.prog 4 #[g.val, .slice ao l.length cap] w fun e w' => e = .returned (.bool true) /\ Below w.heap.size w w' := by
 by_cases h0 : (checkG g (checkF g.ts g.ns)).1 = 0
 ·cases hab : l.all (usedB g.ls.length) with
  | true => exact uses_yes g ao cap l w h hfi hl hdd hr (checkG g (checkF g.ts g.ns)).2 (by rw [<- h0]) hab
  | false => exact uses_wrong g ao cap l w h hfi hl hdd hr (checkG g (checkF g.ts g.ns)).2 (by rw [<- h0]) hab
 ·exact uses_no g ao cap l w h hfi hl hdd hr _ _ rfl h0
end Go.Proofs.Ytlkkllehaabebaa
