import Derived.Test.YtjpknihkcndoiaaGreatPPC25ToPC26
import Derived.Test.YtjpknihkcndoiaaGreatPPC12ToPC13
namespace Go.Proofs.YtjpknihkcndoiaaGreat
set_option linter.unusedVariables false
set_option maxRecDepth 100000
set_option maxHeartbeats 16000000
open Go.RowKit Go.Maps
structure DRow (w : World) (ao : Option Addr) (l : List DM) : Prop where
 cells : l ≠ [] -> ∃ b off, ao = some ⟨b, off, none⟩ /\ b < w.heap.size /\ ∀ i (hi : i < l.length), w.cell? ⟨b, off + i * 6, none⟩ = some (.int .i64 l[i].d.look) /\ w.cell? ⟨b, off + i * 6 + 1, none⟩ = some (.int .i64 l[i].d.kind) /\ w.cell? ⟨b, off + i * 6 + 2, none⟩ = some (.int .i64 l[i].d.prod) /\ w.cell? ⟨b, off + i * 6 + 3, none⟩ = some (.slice l[i].ao l[i].d.drop.length l[i].c) /\ w.cell? ⟨b, off + i * 6 + 4, none⟩ = some (.bool l[i].d.sd) /\ w.cell? ⟨b, off + i * 6 + 5, none⟩ = some (.int .i64 l[i].d.lev)
 rows : ∀ x ∈ l, InRow w x.ao x.d.drop
theorem DRow.later {w w' : World} {ao : Option Addr} {l : List DM} (h : DRow w ao l) (hb : Below w.heap.size w w') : DRow w' ao l := by
 refine ⟨fun hne => ?_, fun x hx => (h.rows x hx).later hb⟩
 obtain ⟨b, off, rfl, hl, hc⟩ := h.cells hne
 have e : ∀ j, w'.cell? ⟨b, j, none⟩ = w.cell? ⟨b, j, none⟩ := fun j => hb.cell (p := ⟨b, j, none⟩) hl
 refine ⟨b, off, rfl, Nat.lt_of_lt_of_le hl hb.size, fun i hi => ?_⟩
 rw [e, e, e, e, e, e]
 exact hc i hi
end Go.Proofs.YtjpknihkcndoiaaGreat
namespace Go.Proofs.YtjpknihkcndoiaaGreat
set_option linter.unusedVariables false
set_option maxRecDepth 100000
set_option maxHeartbeats 16000000
open Go.RowKit Go.Maps
set_option linter.unusedSimpArgs false in
theorem all_P (ao bo : Option Addr) (ca cb : Nat) (l m : List DM) (w : World) (hl : l.length <= 140737488355328) (hlm : l.map DM.d = m.map DM.d) (hd : ∀ x ∈ l, x.d.drop.length <= 140737488355328) (h1 : DRow w ao l) (h2 : DRow w bo m) :
  Calls Tryz.prog 12 #[.slice ao l.length ca, .slice bo m.length cb] w fun e w' => e = .returned (.bool true) /\ Below w.heap.size w w' := by
 have hlen : l.length = m.length := by have := congrArg List.length hlm; simpa using this
 have H1 : Hid (∀ w', Below w.heap.size w w' -> DRow w' ao l /\ DRow w' bo m) := fun w' hb => ⟨h1.later hb, h2.later hb⟩
 have HDL : Hid (∀ x ∈ l, x.d.drop.length <= 140737488355328) := hd
 have HLM : Hid (l.map DM.d = m.map DM.d) := hlm
 rw [<- hlen]
 have HLE : Hid (l.length = m.length) := hlen
 clear hlen
 have t0 : ((l.length : Int) != (l.length : Int)) = false := by simp
 clear h1 h2 hlm hd
 go_enter Tryz.func12, Tryz.ntmps12
 go_wp2
 go_loopw [5] (fun z wr => ∃ k : Nat, k <= l.length /\ z = .int .i64 k /\ Below w.heap.size w wr) (fun z _ => l.length - (intOf z).toNat)
 case atStart => exact ⟨0, Nat.zero_le _, rfl, Below.refl _ _⟩
 case round =>
  obtain ⟨k, hk, rfl, hbel⟩ := hrel
  by_cases hlt : k < l.length
  ·obtain ⟨wd, hwd⟩ : ∃ wd : World, wd = wr.drew := ⟨_, rfl⟩
   have SD : Hid (Below w.heap.size w wd) := by rw [hwd]; exact hbel.drew
   have hlt2 : k < m.length := by have := HLE.out; omega
   obtain ⟨q1, q2⟩ := H1.out wd SD.out
   obtain ⟨rb, ro, hao, hrb, hrc⟩ := q1.cells (by intro e; rw [e] at hlt; simp at hlt)
   obtain ⟨sb, so, hbo, hsb, hsc⟩ := q2.cells (by intro e; rw [e] at hlt2; simp at hlt2)
   obtain ⟨c0, c1, c2, c3, c4, c5⟩ := hrc k hlt
   obtain ⟨d0, d1, d2, d3, d4, d5⟩ := hsc k hlt2
   have klt : (k : Int) < (l.length : Int) := by omega
   have ED : m[k].d = l[k].d := by
    have e : (l.map DM.d)[k]? = (m.map DM.d)[k]? := by rw [HLM.out]
    simp only [List.getElem?_map, List.getElem?_eq_getElem hlt, List.getElem?_eq_getElem hlt2, Option.map_some, Option.some.injEq] at e
    exact e.symm
   have R1 := q1.rows _ (List.getElem_mem hlt)
   have R2 := q2.rows _ (List.getElem_mem hlt2)
   have HL1 := HDL.out _ (List.getElem_mem hlt)
   rw [ED] at d0 d1 d2 d3 d4 d5 R2
   have SM : Hid (Calls Tryz.prog 15 #[dval l[k].d l[k].ao l[k].c, dval l[k].d m[k].ao m[k].c] wd fun e' w' => e' = .returned (.bool true) /\ Below wd.heap.size wd w') := same_P l[k].d l[k].ao m[k].ao l[k].c m[k].c wd HL1 R1 R2
   rw [hao, hbo]
   clear hrc hsc q1 q2 R1 R2 HL1 ED hbel
   generalize l[k] = x at *
   generalize m[k] = y at *
   obtain ⟨⟨xl, xk, xp, xd, xs, xv⟩, xa, xc⟩ := x
   obtain ⟨yd, ya, yc⟩ := y
   simp only at c0 c1 c2 c3 c4 c5 d0 d1 d2 d3 d4 d5 SM
   go_wp2
   refine wp_region_tail_s 8 (by kernel_rfl) (by kernel_rfl) wd hwd ?_
   clear hwd
   simp only [List.take_succ_cons, List.take_zero, List.drop_succ_cons, List.drop_zero]
   refine st_yes (v := ?_) (by rfl) ?_ ?_
   rotate_left
   ·(go_simp; with_reducible rfl)
   (try simp only [Act.put, lsA, lsZ, lsN])
   refine st_yes (v := ?_) (by rfl) ?_ ?_
   rotate_left
   ·(go_simp; with_reducible rfl)
   (try simp only [Act.put, lsA, lsZ, lsN])
   refine st_yes (v := ?_) (by rfl) ?_ ?_
   rotate_left
   ·(go_simp; with_reducible rfl)
   (try simp only [Act.put, lsA, lsZ, lsN])
   refine st_yes (v := ?_) (by rfl) ?_ ?_
   rotate_left
   ·(go_simp; with_reducible rfl)
   (try simp only [Act.put, lsA, lsZ, lsN])
   refine st_yes (v := ?_) (by rfl) ?_ ?_
   rotate_left
   ·(go_simp; with_reducible rfl)
   (try simp only [Act.put, lsA, lsZ, lsN])
   refine st_yes (v := ?_) (by rfl) ?_ ?_
   rotate_left
   ·(go_simp; with_reducible rfl)
   (try simp only [Act.put, lsA, lsZ, lsN])
   refine st_yes (v := ?_) (by rfl) ?_ ?_
   rotate_left
   ·(go_simp; with_reducible rfl)
   (try simp only [Act.put, lsA, lsZ, lsN])
   refine st_yes (v := ?_) (by rfl) ?_ ?_
   rotate_left
   ·(go_simp; with_reducible rfl)
   (try simp only [Act.put, lsA, lsZ, lsN])
   refine st_nil ?_
   go_wp2_with (go_at_call 15; refine SM.out.mono ?_; rintro e w4 ⟨rfl, b4⟩; have SE : Hid (Below w.heap.size w w4) := SD.out.trans (b4.mono SD.out.size); clear b4)
   go_roundw
   case rel => exact ⟨k + 1, by omega, by go_num, SE.out⟩
   case measure => simp [intOf]; omega
  ·have klt : ¬ (k : Int) < (l.length : Int) := by omega
   go_wp2
   go_ret
   exact ⟨rfl, hbel⟩
end Go.Proofs.YtjpknihkcndoiaaGreat
