import Derived.Test.YtccednepbkjajaaPTB7ToTB8
namespace Go.Proofs.Ytccednepbkjajaa
set_option linter.unusedVariables false
open Go.RowKit
section
variable {w0 : World} {N bb bo : Nat} {OC : Nat -> Option Value} {RF : Nat -> Option Obj} {vo vd : Value} {NL : List (Int × Nat × Nat)} {DL : List TV} {w : World}
theorem BdM.setC (h : BdM w0 N bb bo OC RF vo vd NL DL w) {o : Nat} (h1 : o ≠ bo) (h2 : o ≠ bo + 1) {c : Value} (hc : OC o = some c) (v : Value) : BdM w0 N bb bo (fun i => if i = o then some v else OC i) RF vo vd NL DL (w.setCell ⟨bb, o, none⟩ v) := by
 obtain ⟨C, ty, hC, n1, n2, c0, c1⟩ := h.bk
 have ho : ∀ j, j ≠ bb -> (w.setCell ⟨bb, o, none⟩ v).heap[j]? = w.heap[j]? := fun j hj => Below.heap_setCell _ _ _ _ hj
 have hz : (w.setCell ⟨bb, o, none⟩ v).heap.size = w.heap.size := by simp [World.setCell]
 have hco : C[o]? = some c := by
  have := h.oc o h1 h2
  rw [hc, cellq_any hC] at this
  exact this
 have hlt : o < C.size := by
  apply Classical.byContradiction
  intro e
  rw [Array.getElem?_eq_none (by omega)] at hco
  cases hco
 have hS := heap_setCell_same w bb o _ _ v hC
 refine ⟨h.bel.setCell (p := ⟨bb, o, none⟩) h.bn _, by rw [hz]; exact h.nz, ⟨C.setIfInBounds o v, ty, hS, n1, n2, by rw [Array.getElem?_setIfInBounds_ne h1]; exact c0, by rw [Array.getElem?_setIfInBounds_ne h2]; exact c1⟩, h.bn, fun i k1 k2 => ?_, fun j q hj => ?_, h.no.kept fun j hj => ho j (fun e => h.bb_o (by rw [<- e]; exact hj)), h.td.kept fun j hj => ho j (fun e => h.bb_d (by rw [<- e]; exact hj)), h.oo, h.od, fun t ht => ?_, fun a ha => ?_, h.dn⟩
 ·by_cases e : i = o
  ·subst e
   rw [if_pos rfl, cellq_any hS]
   simp [hlt]
  ·rw [if_neg e, World.cell?_setCell_other _ _ _ _ (fun q => by simp only [Addr.mk.injEq] at q; exact e q.2.1.symm)]
   exact h.oc i k1 k2
 ·obtain ⟨a, b, c, d⟩ := h.rf j q hj
  exact ⟨(ho j b).trans a, b, c, d⟩
 ·refine keep_at t 0 0 (h.tr t ht) fun a ha => ?_
  have hm : a ∈ inR DL := List.mem_flatMap.2 ⟨t, ht, ha⟩
  obtain ⟨-, -, -, cs, hc'⟩ := h.ad a hm
  have e := ho a.1 (h.o_a hm).2
  exact ⟨lt_of_block (e.trans hc'), fun i _ => World.cell?_of_block e⟩
 ·obtain ⟨a1, b, c, cs, hc'⟩ := h.ad a ha
  exact ⟨a1, b, c, cs, (ho a.1 (h.o_a ha).2).trans hc'⟩
theorem BdS.setC {A : AB} (h : BdS w0 N bb bo OC RF A w) {o : Nat} (h1 : o ≠ bo) (h2 : o ≠ bo + 1) {c : Value} (hc : OC o = some c) (v : Value) : BdS w0 N bb bo (fun i => if i = o then some v else OC i) RF A (w.setCell ⟨bb, o, none⟩ v) := by
 obtain ⟨a, b, B, d, e⟩ := h
 exact ⟨a, b, B, d, e.setC h1 h2 hc v⟩
end
theorem dvO_u (g : GV) (pl wl : Value) (u r u' : Int) : (fun i => if i = 7 then some (Value.int .i64 u') else dvO g pl wl u r i) = dvO g pl wl u' r := by
 funext i
 unfold dvO
 rcases i with _ | _ | _ | _ | _ | _ | _ | _ | _ | i <;> simp
theorem dvO_r (g : GV) (pl wl : Value) (u r r' : Int) : (fun i => if i = 8 then some (Value.int .i64 r') else dvO g pl wl u r i) = dvO g pl wl u r' := by
 funext i
 unfold dvO
 rcases i with _ | _ | _ | _ | _ | _ | _ | _ | _ | i <;> simp
section
variable {w0 : World} {N db : Nat} {RF : Nat -> Option Obj} {w : World} {g : GV} {pa : Option Addr} {pc : Nat} {wl : Value} {r : Int} {A : AB}
set_option linter.unusedSimpArgs false in
set_option maxRecDepth 100000 in
set_option maxHeartbeats 4000000 in
theorem prod_short {l : List Int} {u : Nat} {s : Int} (h : BdS w0 N db 9 (dvO g (.slice pa l.length pc) wl (u : Int) r) RF A w) (hu : u = l.length) : Calls Try.prog 64 #[.pointer (some ⟨db, 0, none⟩), .int .i64 s] w fun e w' => e = .returned (.tuple #[.int .i64 11, .int .i64 (u : Int)]) /\ BdS w0 N db 9 (dvO g (.slice pa l.length pc) wl (u : Int) r) RF A w' := by
 have c5 := h.oc (o := 5) (by omega) (by omega)
 have c7 := h.oc (o := 7) (by omega) (by omega)
 simp only [dvO, List.getElem?_cons_succ, List.getElem?_cons_zero] at c5 c7
 have HH : Hid (BdS w0 N db 9 (dvO g (.slice pa l.length pc) wl (u : Int) r) RF A w) := h
 rw [<- hu] at c5
 clear h hu
 go_enter Try.func64, Try.ntmps64
 go_upto_region 1 with fail
 obtain ⟨wd, hwd⟩ : ∃ wd : World, wd = w.drew := ⟨_, rfl⟩
 have HD : Hid (BdS w0 N db 9 (dvO g (.slice pa l.length pc) wl (u : Int) r) RF A wd) := by show BdS _ _ _ _ _ _ _ _; rw [hwd]; exact HH.out.later (Below.refl _ _).drew
 have d5 : wd.cell? ⟨db, 5, none⟩ = some (.slice pa u pc) := by rw [hwd]; exact c5
 have d7 : wd.cell? ⟨db, 7, none⟩ = some (.int .i64 (u : Int)) := by rw [hwd]; exact c7
 refine wp_region_s (by kernel_rfl) (by kernel_rfl) wd hwd ?_
 clear hwd c5 c7 HH
 iterate 10 (refine st_yes (v := ?_) (by rfl) ?_ ?_; rotate_left; (· (go_simp; with_reducible rfl)); (try simp only [Act.put, List.setIfInBounds_toArray, List.set_cons_zero, List.set_cons_succ]))
 refine st_nil ?_
 go_upto_region 2 with fail
 obtain ⟨we, hwe⟩ : ∃ we : World, we = wd.drew := ⟨_, rfl⟩
 have HE : Hid (BdS w0 N db 9 (dvO g (.slice pa l.length pc) wl (u : Int) r) RF A we) := by show BdS _ _ _ _ _ _ _ _; rw [hwe]; exact HD.out.later (Below.refl _ _).drew
 have e7 : we.cell? ⟨db, 7, none⟩ = some (.int .i64 (u : Int)) := by rw [hwe]; exact d7
 refine wp_region_s (by kernel_rfl) (by kernel_rfl) we hwe ?_
 clear hwe d5 d7 HD
 iterate 6 (refine st_yes (v := ?_) (by rfl) ?_ ?_; rotate_left; (· (go_simp; with_reducible rfl)); (try simp only [Act.put, List.setIfInBounds_toArray, List.set_cons_zero, List.set_cons_succ]))
 refine st_nil ?_
 go_wp2
 refine bodyPost_ret (v := .tuple #[.int .i64 11, .int .i64 (u : Int)]) (by simp [results, Try.results64, go_sem]) rfl ?_
 exact ⟨rfl, HE.out⟩
end
def tpS (db : Nat) (g : GV) (pb po n lb lo u ll lc : Nat) (L : Int) (ra : Option Addr) (rl rc : Nat) (w : World) : Prop := w.cell? ⟨db, 3, none⟩ = some (.slice (some ⟨pb, po, none⟩) g.ps.length g.pc) /\ w.cell? ⟨db, 5, none⟩ = some (.slice (some ⟨lb, lo, none⟩) ll lc) /\ w.cell? ⟨db, 7, none⟩ = some (.int .i64 (u : Int)) /\ w.cell? ⟨lb, lo + u, none⟩ = some (.int .i64 (n : Int)) /\ w.cell? ⟨pb, po + n * 3, none⟩ = some (.int .i64 L) /\ w.cell? ⟨pb, po + n * 3 + 1, none⟩ = some (.slice ra rl rc)
theorem tpS.later {db : Nat} {g : GV} {pb po n lb lo u ll lc : Nat} {L : Int} {ra : Option Addr} {rl rc : Nat} {w w' : World} (h : tpS db g pb po n lb lo u ll lc L ra rl rc w) (hb : Below w.heap.size w w') : tpS db g pb po n lb lo u ll lc L ra rl rc w' := ⟨cellW hb h.1, cellW hb h.2.1, cellW hb h.2.2.1, cellW hb h.2.2.2.1, cellW hb h.2.2.2.2.1, cellW hb h.2.2.2.2.2⟩
theorem wpAnyX_takeBC {P : Program} {ops : Array Oper} {Q : Exit -> Act -> World -> Prop} {md : Region.Mode} {m i : Nat} {oi : Oper} {v : Value} {S0 S1 : World -> Prop} {fuel : Nat} {listed : Array Bool} {a : Act} {w : World} (ch : List (Nat × Nat)) (hi' : ops.toList[i]? = some oi)
  (hs : Region.noSelect ops = true) (hl : (ch.all fun p => Region.waitsFor md ops p.1 p.2) = true) (hch : ∀ L : Nat -> Prop, (∀ p ∈ ch, L p.1 -> L p.2) -> L m -> L i) (him : i < m) (hf : Region.free md ops listed i = true) (hr : (Region.ready md ops listed).contains i = true)
  (hQ : ∀ c a w, Q (.panic c) (a.put oi.dst v) w -> Q (.panic c) a w) (hcl : (ch.all fun p => !listed.getD p.1 false) = true) (hy : YieldsIf P ops (fun w => S0 w /\ S1 w) oi v a) (hS : SX m S0 S1 listed w)
  (h : wpAnyX P md ops Q (SX m S0 S1) fuel (listed.setIfInBounds i true) (a.put oi.dst v) w) : wpAnyX P md ops Q (SX m S0 S1) (fuel + 1) listed a w :=
 have hi : ops[i]? = some oi := by rw [<- Array.getElem?_toList]; exact hi'
 wpAnyX_first (Cl := fun L => ∀ p ∈ ch, L.getD p.1 false = true -> L.getD p.2 false = true) hi (Region.noSelect_spec hs) hQ
  (fun L j hL hj => fun p hp hm => by
   by_cases hjm : j = p.1
   ·subst hjm
    obtain ⟨_, oj, hoj, hall⟩ := mem_ready.1 hj
    obtain ⟨o', ho', e, he, hb, hon⟩ := Region.waitsFor_spec (List.all_eq_true.1 hl p hp)
    obtain rfl : o' = oj := Option.some.inj (ho'.symm.trans hoj)
    have h2 := hall e he hb
    rw [hon] at h2
    exact getD_set_true h2
   ·rw [getD_set_ne false hjm] at hm
    exact getD_set_true (hL p hp hm))
  (fun L w hc hun hS => ⟨hS.1, hS.2 (by
   cases e : L.getD m false with
   | false => rfl
   | true => have := hch (fun k => L.getD k false = true) hc e; rw [getD_both hun] at this; cases this)⟩)
  (fun L w => by
   have e : (L.setIfInBounds i true).getD m false = L.getD m false := getD_set_ne false (by omega)
   unfold SX
   rw [e]) fuel listed a w (Region.free_spec hi hf) (by simpa using hr) (fun p hp e => by have := List.all_eq_true.1 hcl p hp; rw [e] at this; cases this) hy hS h
theorem ent_node : EntW 89 := fun _ _ => by kernel_rfl
theorem BdS.fro {w0 : World} {N bb bo : Nat} {OC : Nat -> Option Value} {RF : Nat -> Option Obj} {A : AB} {w : World} (h : BdS w0 N bb bo OC RF A w) (o : Nat) : w.frozen? ⟨bb, o, none⟩ = false := by
 obtain ⟨a, b, c, d, e⟩ := h
 obtain ⟨C, ty, hC, -⟩ := e.bk
 simp [World.frozen?, hC]
section
variable {w0 : World} {N db : Nat} {RF : Nat -> Option Obj} {w : World} {g : GV} {pa : Option Addr} {pc : Nat} {wl : Value} {r : Int} {A : AB}
set_option linter.unusedSimpArgs false in
set_option maxRecDepth 100000 in
set_option maxHeartbeats 4000000 in
theorem prod_wrong {l : List Int} {u n : Nat} {s : Int} (h : BdS w0 N db 9 (dvO g (.slice pa l.length pc) wl (u : Int) r) RF A w) (hg : GAt 140737488355328 w g) (hl : InRow w pa l) (hu : u < l.length) (hub : u <= 1000000000) (hn : l.getD u 0 = (n : Int)) (hnl : n < g.ps.length) (hs : (g.ps.getD n .none).left ≠ s) : Calls Try.prog 64 #[.pointer (some ⟨db, 0, none⟩), .int .i64 s] w fun e w' => e = .returned (.tuple #[.int .i64 81, .int .i64 (u : Int)]) /\ BdS w0 N db 9 (dvO g (.slice pa l.length pc) wl (u : Int) r) RF A w' := by
 have c3 := h.oc (o := 3) (by omega) (by omega)
 have c5 := h.oc (o := 5) (by omega) (by omega)
 have c7 := h.oc (o := 7) (by omega) (by omega)
 simp only [dvO, List.getElem?_cons_succ, List.getElem?_cons_zero] at c3 c5 c7
 obtain ⟨pb, po, hpa, -, k0, k1, -⟩ := ps_cells hg hnl
 obtain ⟨lb, lo, rfl, -, hcl⟩ := hl (by intro e; rw [e] at hu; simp at hu)
 have k2 := hcl u hu
 rw [hn] at k2
 rw [hpa] at c3
 obtain ⟨L, hL⟩ : ∃ L, (g.ps.getD n .none).left = L := ⟨_, rfl⟩
 obtain ⟨ra, hra⟩ : ∃ ra, (g.ps.getD n .none).ra = ra := ⟨_, rfl⟩
 obtain ⟨rc, hrc⟩ : ∃ rc, (g.ps.getD n .none).rc = rc := ⟨_, rfl⟩
 obtain ⟨rl, hrl⟩ : ∃ rl, (g.ps.getD n .none).right.length = rl := ⟨_, rfl⟩
 rw [hL] at k0
 rw [hra, hrl, hrc] at k1
 rw [hL] at hs
 have lne : ¬ L = s := hs
 clear hs hL hrl
 have une : ¬ (u : Int) = (l.length : Int) := by omega
 have unn : ¬ u = l.length := by omega
 have ult : (u : Int) < (l.length : Int) := by omega
 have nlt : (n : Int) < (g.ps.length : Int) := by omega
 have HH : Hid (BdS w0 N db 9 (dvO g (.slice (some ⟨lb, lo, none⟩) l.length pc) wl (u : Int) r) RF A w) := h
 have HS : Hid (tpS db g pb po n lb lo u l.length pc L ra rl rc w) := ⟨c3, c5, c7, k2, k0, k1⟩
 clear h hg hl hu hn hnl c3 c5 c7 hpa k0 k1 k2 hcl hra hrc
 generalize l.length = ll at *
 go_enter Try.func64, Try.ntmps64
 go_upto_region 1 with fail
 obtain ⟨wd, hwd⟩ : ∃ wd : World, wd = w.drew := ⟨_, rfl⟩
 have HD : Hid (BdS w0 N db 9 (dvO g (.slice (some ⟨lb, lo, none⟩) ll pc) wl (u : Int) r) RF A wd) := by show BdS _ _ _ _ _ _ _ _; rw [hwd]; exact HH.out.later (Below.refl _ _).drew
 have SD : Hid (tpS db g pb po n lb lo u ll pc L ra rl rc wd) := by show tpS _ _ _ _ _ _ _ _ _ _ _ _ _ _ _; rw [hwd]; exact HS.out.later (Below.refl _ _).drew
 obtain ⟨d3, d5, d7, m2, m0, m1⟩ := SD.out
 refine wp_region_s (by kernel_rfl) (by kernel_rfl) wd hwd ?_
 clear hwd HH HS
 iterate 10 (refine st_yes (v := ?_) (by rfl) ?_ ?_; rotate_left; (· (go_simp; with_reducible rfl)); (try simp only [Act.put, List.setIfInBounds_toArray, List.set_cons_zero, List.set_cons_succ]))
 refine st_nil ?_
 clear d3 d5 d7 m2 m0 m1
 go_upto_region 3 with fail
 obtain ⟨we, hwe⟩ : ∃ we : World, we = wd.drew := ⟨_, rfl⟩
 have HE : Hid (BdS w0 N db 9 (dvO g (.slice (some ⟨lb, lo, none⟩) ll pc) wl (u : Int) r) RF A we) := by show BdS _ _ _ _ _ _ _ _; rw [hwe]; exact HD.out.later (Below.refl _ _).drew
 have SE : Hid (tpS db g pb po n lb lo u ll pc L ra rl rc we) := by show tpS _ _ _ _ _ _ _ _ _ _ _ _ _ _ _; rw [hwe]; exact SD.out.later (Below.refl _ _).drew
 obtain ⟨d3, d5, d7, m2, m0, m1⟩ := SE.out
 refine wp_region_s (by kernel_rfl) (by kernel_rfl) we hwe ?_
 clear hwe HD SD
 iterate 11 (refine st_yes (v := ?_) (by rfl) ?_ ?_; rotate_left; (· (go_simp; with_reducible rfl)); (try simp only [Act.put, List.setIfInBounds_toArray, List.set_cons_zero, List.set_cons_succ]))
 refine st_nil ?_
 go_upto_region 5 with fail
 clear d3 d5 d7 m2 m0 m1
 obtain ⟨wf, hwf⟩ : ∃ wf : World, wf = we.drew := ⟨_, rfl⟩
 have HF : Hid (BdS w0 N db 9 (dvO g (.slice (some ⟨lb, lo, none⟩) ll pc) wl (u : Int) r) RF A wf) := by show BdS _ _ _ _ _ _ _ _; rw [hwf]; exact HE.out.later (Below.refl _ _).drew
 have d7 : wf.cell? ⟨db, 7, none⟩ = some (.int .i64 (u : Int)) := by rw [hwf]; exact SE.out.2.2.1
 refine wp_region_s (by kernel_rfl) (by kernel_rfl) wf hwf ?_
 clear hwf HE SE
 iterate 6 (refine st_yes (v := ?_) (by rfl) ?_ ?_; rotate_left; (· (go_simp; with_reducible rfl)); (try simp only [Act.put, List.setIfInBounds_toArray, List.set_cons_zero, List.set_cons_succ]))
 refine st_nil ?_
 go_wp2
 refine bodyPost_ret (v := .tuple #[.int .i64 81, .int .i64 (u : Int)]) (by simp [results, Try.results64, go_sem]) rfl ?_
 exact ⟨rfl, HF.out⟩
set_option linter.unusedSimpArgs false in
set_option maxRecDepth 100000 in
set_option maxHeartbeats 4000000 in
theorem prod_ok {l : List Int} {u n : Nat} {s : Int} (h : BdS w0 N db 9 (dvO g (.slice pa l.length pc) wl (u : Int) r) RF A w) (hg : GAt 140737488355328 w g) (hl : InRow w pa l) (hu : u < l.length) (hub : u <= 1000000000) (hn : l.getD u 0 = (n : Int)) (hnl : n < g.ps.length) (hs : (g.ps.getD n .none).left = s) (hz : (dlA A).length + A.2.length <= 999999999) : Calls Try.prog 64 #[.pointer (some ⟨db, 0, none⟩), .int .i64 s] w fun e w' => e = .returned (.tuple #[.int .i64 0, .int .i64 0]) /\ BdS w0 N db 9 (dvO g (.slice pa l.length pc) wl ((u : Int) + 1) r) RF (clU2 (A.1, ⟨(n : Int), (g.ps.getD n .none).right.length, []⟩ :: A.2)) w' := by
 have c3 := h.oc (o := 3) (by omega) (by omega)
 have c5 := h.oc (o := 5) (by omega) (by omega)
 have c7 := h.oc (o := 7) (by omega) (by omega)
 simp only [dvO, List.getElem?_cons_succ, List.getElem?_cons_zero] at c3 c5 c7
 obtain ⟨pb, po, hpa, -, k0, k1, -⟩ := ps_cells hg hnl
 obtain ⟨lb, lo, rfl, -, hcl⟩ := hl (by intro e; rw [e] at hu; simp at hu)
 have k2 := hcl u hu
 rw [hn] at k2
 rw [hpa] at c3
 obtain ⟨L, hL⟩ : ∃ L, (g.ps.getD n .none).left = L := ⟨_, rfl⟩
 obtain ⟨ra, hra⟩ : ∃ ra, (g.ps.getD n .none).ra = ra := ⟨_, rfl⟩
 obtain ⟨rc, hrc⟩ : ∃ rc, (g.ps.getD n .none).rc = rc := ⟨_, rfl⟩
 obtain ⟨rl, hrl⟩ : ∃ rl, (g.ps.getD n .none).right.length = rl := ⟨_, rfl⟩
 rw [hL] at k0
 rw [hra, hrl, hrc] at k1
 rw [hL] at hs
 rw [hrl]
 subst hs
 have HZ : Hid ((dlA A).length + A.2.length <= 999999999) := hz
 have e2 : IntKind.i64.wrap ((u : Int) + 1) = (u : Int) + 1 := IntWalk.i64_in _ ⟨by omega, by omega⟩
 clear hz hL hrl
 have une : ¬ (u : Int) = (l.length : Int) := by omega
 have unn : ¬ u = l.length := by omega
 have ult : (u : Int) < (l.length : Int) := by omega
 have nlt : (n : Int) < (g.ps.length : Int) := by omega
 have HH : Hid (BdS w0 N db 9 (dvO g (.slice (some ⟨lb, lo, none⟩) l.length pc) wl (u : Int) r) RF A w) := h
 have HS : Hid (tpS db g pb po n lb lo u l.length pc L ra rl rc w) := ⟨c3, c5, c7, k2, k0, k1⟩
 clear h hg hl hu hn hnl c3 c5 c7 hpa k0 k1 k2 hcl hra hrc
 generalize l.length = ll at *
 go_enter Try.func64, Try.ntmps64
 go_upto_region 1 with fail
 obtain ⟨wd, hwd⟩ : ∃ wd : World, wd = w.drew := ⟨_, rfl⟩
 have HD : Hid (BdS w0 N db 9 (dvO g (.slice (some ⟨lb, lo, none⟩) ll pc) wl (u : Int) r) RF A wd) := by show BdS _ _ _ _ _ _ _ _; rw [hwd]; exact HH.out.later (Below.refl _ _).drew
 have SD : Hid (tpS db g pb po n lb lo u ll pc L ra rl rc wd) := by show tpS _ _ _ _ _ _ _ _ _ _ _ _ _ _ _; rw [hwd]; exact HS.out.later (Below.refl _ _).drew
 obtain ⟨d3, d5, d7, m2, m0, m1⟩ := SD.out
 refine wp_region_s (by kernel_rfl) (by kernel_rfl) wd hwd ?_
 clear hwd HH HS
 iterate 10 (refine st_yes (v := ?_) (by rfl) ?_ ?_; rotate_left; (· (go_simp; with_reducible rfl)); (try simp only [Act.put, List.setIfInBounds_toArray, List.set_cons_zero, List.set_cons_succ]))
 refine st_nil ?_
 clear d3 d5 d7 m2 m0 m1
 go_upto_region 3 with fail
 obtain ⟨we, hwe⟩ : ∃ we : World, we = wd.drew := ⟨_, rfl⟩
 have HE : Hid (BdS w0 N db 9 (dvO g (.slice (some ⟨lb, lo, none⟩) ll pc) wl (u : Int) r) RF A we) := by show BdS _ _ _ _ _ _ _ _; rw [hwe]; exact HD.out.later (Below.refl _ _).drew
 have SE : Hid (tpS db g pb po n lb lo u ll pc L ra rl rc we) := by show tpS _ _ _ _ _ _ _ _ _ _ _ _ _ _ _; rw [hwe]; exact SD.out.later (Below.refl _ _).drew
 obtain ⟨d3, d5, d7, m2, m0, m1⟩ := SE.out
 refine wp_region_s (by kernel_rfl) (by kernel_rfl) we hwe ?_
 clear hwe HD SD
 iterate 11 (refine st_yes (v := ?_) (by rfl) ?_ ?_; rotate_left; (· (go_simp; with_reducible rfl)); (try simp only [Act.put, List.setIfInBounds_toArray, List.set_cons_zero, List.set_cons_succ]))
 refine st_nil ?_
 go_upto_region 6 with fail
 clear d3 d5 d7 m2 m0 m1
 obtain ⟨wf, hwf⟩ : ∃ wf : World, wf = we.drew := ⟨_, rfl⟩
 have HF : Hid (BdS w0 N db 9 (dvO g (.slice (some ⟨lb, lo, none⟩) ll pc) wl (u : Int) r) RF A wf) := by show BdS _ _ _ _ _ _ _ _; rw [hwf]; exact HE.out.later (Below.refl _ _).drew
 have SF : Hid (tpS db g pb po n lb lo u ll pc L ra rl rc wf) := by show tpS _ _ _ _ _ _ _ _ _ _ _ _ _ _ _; rw [hwf]; exact SE.out.later (Below.refl _ _).drew
 refine wp_region_x (S := SX 14 (fun _ => True) (tpS db g pb po n lb lo u ll pc L ra rl rc)) (by kernel_rfl) ?_
 rw [<- hwf]
 clear hwf HE SE
 refine wpAnyX_takeBP (m := 14) (i := 0) (v := ?_) rfl (by kernel_rfl) (by decide) (by decide +kernel) (by decide +kernel) (fun _ _ _ h => h) (Or.inl ⟨by rfl, ?_⟩) (SX.both trivial SF.out) ?_
 rotate_left
 ·(intro w _; go_simp; try (with_reducible rfl))
 (try simp only [Act.put, List.setIfInBounds_toArray, List.set_cons_zero, List.set_cons_succ])
 refine wpAnyX_takeBP (m := 14) (i := 1) (v := ?_) rfl (by kernel_rfl) (by decide) (by decide +kernel) (by decide +kernel) (fun _ _ _ h => h) (Or.inl ⟨by rfl, ?_⟩) (SX.both trivial SF.out) ?_
 rotate_left
 ·(intro w _; go_simp; try (with_reducible rfl))
 (try simp only [Act.put, List.setIfInBounds_toArray, List.set_cons_zero, List.set_cons_succ])
 refine wpAnyX_takeBP (m := 14) (i := 2) (v := ?_) rfl (by kernel_rfl) (by decide) (by decide +kernel) (by decide +kernel) (fun _ _ _ h => h) (Or.inl ⟨by rfl, ?_⟩) (SX.both trivial SF.out) ?_
 rotate_left
 ·(intro w _; go_simp; try (with_reducible rfl))
 (try simp only [Act.put, List.setIfInBounds_toArray, List.set_cons_zero, List.set_cons_succ])
 refine wpAnyX_takeBP (m := 14) (i := 3) (v := ?_) rfl (by kernel_rfl) (by decide) (by decide +kernel) (by decide +kernel) (fun _ _ _ h => h) (Or.inl ⟨by rfl, ?_⟩) (SX.both trivial SF.out) ?_
 rotate_left
 ·(intro w _; go_simp; try (with_reducible rfl))
 (try simp only [Act.put, List.setIfInBounds_toArray, List.set_cons_zero, List.set_cons_succ])
 refine wpAnyX_takeBP (m := 14) (i := 4) (v := ?_) rfl (by kernel_rfl) (by decide) (by decide +kernel) (by decide +kernel) (fun _ _ _ h => h) (Or.inl ⟨by rfl, ?_⟩) (SX.both trivial SF.out) ?_
 rotate_left
 ·(intro w _; go_simp; try (with_reducible rfl))
 (try simp only [Act.put, List.setIfInBounds_toArray, List.set_cons_zero, List.set_cons_succ])
 refine wpAnyX_takeBP (m := 14) (i := 5) (v := ?_) rfl (by kernel_rfl) (by decide) (by decide +kernel) (by decide +kernel) (fun _ _ _ h => h) (Or.inl ⟨by rfl, ?_⟩) (SX.both trivial SF.out) ?_
 rotate_left
 ·(intro w _; go_simp; try (with_reducible rfl))
 (try simp only [Act.put, List.setIfInBounds_toArray, List.set_cons_zero, List.set_cons_succ])
 refine wpAnyX_takeBP (m := 14) (i := 6) (v := ?_) rfl (by kernel_rfl) (by decide) (by decide +kernel) (by decide +kernel) (fun _ _ _ h => h) (Or.inl ⟨by rfl, ?_⟩) (SX.both trivial SF.out) ?_
 rotate_left
 ·(intro w _; go_simp; try (with_reducible rfl))
 (try simp only [Act.put, List.setIfInBounds_toArray, List.set_cons_zero, List.set_cons_succ])
 refine wpAnyX_takeBP (m := 14) (i := 7) (v := ?_) rfl (by kernel_rfl) (by decide) (by decide +kernel) (by decide +kernel) (fun _ _ _ h => h) (Or.inl ⟨by rfl, ?_⟩) (SX.both trivial SF.out) ?_
 rotate_left
 ·(intro w _; go_simp; try (with_reducible rfl))
 (try simp only [Act.put, List.setIfInBounds_toArray, List.set_cons_zero, List.set_cons_succ])
 refine wpAnyX_takeBC (m := 14) (i := 8) (v := ?_) [(14, 13), (13, 12), (12, 11), (11, 10), (10, 8)] rfl (by kernel_rfl) (by kernel_rfl) (fun L h e => h (10, 8) (by decide) (h (11, 10) (by decide) (h (12, 11) (by decide) (h (13, 12) (by decide) (h (14, 13) (by decide) e))))) (by decide) (by decide +kernel) (by decide +kernel) (fun _ _ _ h => h) (by kernel_rfl) (Or.inl ⟨by rfl, ?_⟩) (SX.both trivial SF.out) ?_
 rotate_left
 ·(intro w hSw; have z0 := hSw.2; unfold tpS at z0; obtain ⟨z1, z2, z3, z4, z5, z6⟩ := z0; clear hSw; go_simp; try (with_reducible rfl))
 (try simp only [Act.put, List.setIfInBounds_toArray, List.set_cons_zero, List.set_cons_succ])
 refine wpAnyX_takeBP (m := 14) (i := 9) (v := ?_) rfl (by kernel_rfl) (by decide) (by decide +kernel) (by decide +kernel) (fun _ _ _ h => h) (Or.inl ⟨by rfl, ?_⟩) (SX.both trivial SF.out) ?_
 rotate_left
 ·(intro w _; go_simp; try (with_reducible rfl))
 (try simp only [Act.put, List.setIfInBounds_toArray, List.set_cons_zero, List.set_cons_succ])
 refine wpAnyX_takeBP (m := 14) (i := 10) (v := ?_) rfl (by kernel_rfl) (by decide) (by decide +kernel) (by decide +kernel) (fun _ _ _ h => h) (Or.inl ⟨by rfl, ?_⟩) (SX.both trivial SF.out) ?_
 rotate_left
 ·(intro w _; go_simp; try (with_reducible rfl))
 (try simp only [Act.put, List.setIfInBounds_toArray, List.set_cons_zero, List.set_cons_succ])
 refine wpAnyX_takeBP (m := 14) (i := 11) (v := ?_) rfl (by kernel_rfl) (by decide) (by decide +kernel) (by decide +kernel) (fun _ _ _ h => h) (Or.inl ⟨by rfl, ?_⟩) (SX.both trivial SF.out) ?_
 rotate_left
 ·(intro w _; go_simp; try (with_reducible rfl))
 (try simp only [Act.put, List.setIfInBounds_toArray, List.set_cons_zero, List.set_cons_succ])
 refine wpAnyX_takeBC (m := 14) (i := 12) (v := ?_) [(14, 13), (13, 12)] rfl (by kernel_rfl) (by kernel_rfl) (fun L h e => h (13, 12) (by decide) (h (14, 13) (by decide) e)) (by decide) (by decide +kernel) (by decide +kernel) (fun _ _ _ h => h) (by kernel_rfl) (Or.inl ⟨by rfl, ?_⟩) (SX.both trivial SF.out) ?_
 rotate_left
 ·(intro w hSw; have z0 := hSw.2; unfold tpS at z0; obtain ⟨z1, z2, z3, z4, z5, z6⟩ := z0; clear hSw; go_simp; try (with_reducible rfl))
 (try simp only [Act.put, List.setIfInBounds_toArray, List.set_cons_zero, List.set_cons_succ])
 refine wpAnyX_takeBP (m := 14) (i := 13) (v := ?_) rfl (by kernel_rfl) (by decide) (by decide +kernel) (by decide +kernel) (fun _ _ _ h => h) (Or.inl ⟨by rfl, ?_⟩) (SX.both trivial SF.out) ?_
 rotate_left
 ·(intro w _; go_simp; try (with_reducible rfl))
 (try simp only [Act.put, List.setIfInBounds_toArray, List.set_cons_zero, List.set_cons_succ])
 refine wpAnyX_one (j := 14) (by decide +kernel) rfl (fun K' hK => ?_)
 refine step_callX rfl 89 #[.pointer (some ⟨db, 9, none⟩), .int .i64 (n : Int), .int .i64 (rl : Int)] _ (run_W3 ent_node (v0 := .pointer (some ⟨db, 9, none⟩)) (v1 := .int .i64 (n : Int)) (v2 := .int .i64 (rl : Int)) (by rfl) (by rfl) (by rfl) (by rfl)) (node_B HF.out HZ.out) ?_
 rintro e w3 ⟨rfl, b3⟩
 have H3 : Hid (BdS w0 N db 9 (dvO g (.slice (some ⟨lb, lo, none⟩) ll pc) wl (u : Int) r) RF (clU2 (A.1, ⟨(n : Int), rl, []⟩ :: A.2)) w3) := b3
 clear b3 SF HF
 refine ⟨_, rfl, hK.out _ _ (SX.one trivial (by kernel_rfl)) ?_⟩
 clear hK K'
 (try simp only [Act.put, List.setIfInBounds_toArray, List.set_cons_zero, List.set_cons_succ])
 refine wpAnyX_done (by decide +kernel) ?_
 have d7 : w3.cell? ⟨db, 7, none⟩ = some (.int .i64 (u : Int)) := H3.out.oc (o := 7) (by omega) (by omega)
 have f7 : w3.frozen? ⟨db, 7, none⟩ = false := H3.out.fro 7
 have FIN : Hid (BdS w0 N db 9 (dvO g (.slice (some ⟨lb, lo, none⟩) ll pc) wl ((u : Int) + 1) r) RF (clU2 (A.1, ⟨(n : Int), rl, []⟩ :: A.2)) (w3.setCell ⟨db, 7, none⟩ (.int .i64 ((u : Int) + 1)))) := by
  have := H3.out.setC (o := 7) (by omega) (by omega) (c := .int .i64 (u : Int)) rfl (.int .i64 ((u : Int) + 1))
  rw [dvO_u] at this
  exact this
 clear H3
 go_wp2
 refine bodyPost_ret (v := .tuple #[.int .i64 0, .int .i64 0]) (by simp [results, Try.results64, go_sem]) rfl ?_
 exact ⟨rfl, FIN.out⟩
end
end Go.Proofs.Ytccednepbkjajaa
