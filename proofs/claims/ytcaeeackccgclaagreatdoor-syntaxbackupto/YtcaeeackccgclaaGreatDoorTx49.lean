/- 49. -/
import Derived.Deep.RegionHeld3
import Derived.Test.YtcaeeackccgclaaGreatDoorTx48
set_option maxHeartbeats 40000000
set_option maxRecDepth 100000
namespace Go.Proofs.YtcaeeackccgclaaGreatDoor
open Go.RowKit Go.Shelf
def StW (w:World)(n:Nat)(v:Value)(l:List Sm):Prop:=∃ vs,RowAt w 10 v l.length vs.flatten∧Fa (SmV w (fun _=>True) n) l vs
theorem StW.keep {w w':World}{n:Nat}{v:Value}{l:List Sm}(h:StW w n v l)(hk:∀ g,g<w.heap.size→w'.heap[g]? =w.heap[g]?):StW w' n v l:=by
 obtain⟨vs,h1,h2⟩:=h
 exact⟨vs,h1.keep hk,h2.mono fun _ _ f=>SmV.keep (w:=w) (w':=w') (S:=fun _=>True) (Q:=fun _=>True) (fun g _ hg=>hk g hg) (fun _ _ _=>trivial) f⟩
theorem smv_len {w:World}{S:Nat→Prop}{n:Nat}{x:Sm}{c:List Value}(h:SmV w S n x c):c.length=10:=SmA.len ⟨n,h⟩
theorem fa_len10 {w:World}{S:Nat→Prop}{n:Nat}:∀ {l:List Sm} {vs:List (List Value)},Fa (SmV w S n) l vs→∀ c∈vs,c.length=10
 |[],[],_=>by simp
 |a::l,b::m,f=>fun c hc=>by
  rcases List.mem_cons.1 hc with e|e
  ·rw[e];exact smv_len f.1
  ·exact fa_len10 f.2 c e
theorem StW.at_ {w:World}{n:Nat}{v:Value}{l:List Sm}(h:StW w (n+1) v l){a:Option Addr}{cp:Nat}(hv:v= .slice a l.length cp)(k:Nat)(hk:k<l.length):∃ g nv kv mv bv ev,a=some ⟨g,0,none⟩∧g<w.heap.size∧
  (w.cell? ⟨g,k*10,none⟩=some (.int .i64 l[k].kind)∧w.cell? ⟨g,k*10+1,none⟩=some (sv l[k].text)∧w.cell? ⟨g,k*10+2,none⟩=some nv∧w.cell? ⟨g,k*10+3,none⟩=some (.int .i64 l[k].ex.kind)∧w.cell? ⟨g,k*10+4,none⟩=some (.int .i64 l[k].ex.num)∧w.cell? ⟨g,k*10+5,none⟩=some (sv l[k].ex.text)∧w.cell? ⟨g,k*10+6,none⟩=some kv∧w.cell? ⟨g,k*10+7,none⟩=some mv∧w.cell? ⟨g,k*10+8,none⟩=some bv∧w.cell? ⟨g,k*10+9,none⟩=some ev)∧
  RowAt w 1 nv l[k].names.length (l[k].names.map sv)∧(∃ m,ExR w m kv l[k].ex.kids∧RowAt w 1 mv l[k].ex.names.length (l[k].ex.names.map sv))∧StW w n bv l[k].body∧StW w n ev l[k].els:=by
 obtain⟨vs,⟨a2,c2,e2,h2,_⟩,hfa⟩:=h
 have hl:=hfa.len
 have h10:=fa_len10 hfa
 have hx:=hfa.get k hk (by omega)
 obtain⟨nv,ce,bv,ev,bs,es,e,h3,h4,h5,h6,_,_,_,h7,h8⟩:=hx
 obtain⟨m,hm⟩:=h3
 match m,hm with
 |m+1,⟨kv,mv,vk,ec,r1,r2,_,_,r5⟩=>
 rw[hv]at e2
 injection e2 with e3 _ _
 subst e3
 rcases h2 with h2|⟨g,rfl,hgl,hc⟩
 ·exfalso;omega
 subst ec
 have hat:∀ i,i<10→w.cell? ⟨g,k*10+i,none⟩=([.int .i64 l[k].kind,sv l[k].text,nv,.int .i64 l[k].ex.kind,.int .i64 l[k].ex.num,sv l[k].ex.text,kv,mv,bv,ev]:List Value)[i]? :=fun i hi=>by
  rw[hc (k*10+i) (by omega),flat10 vs h10 k vs[k] (List.getElem?_eq_getElem _) i hi,e]
  rfl
 exact⟨g,nv,kv,mv,bv,ev,rfl,hgl,⟨hat 0 (by decide),hat 1 (by decide),hat 2 (by decide),hat 3 (by decide),hat 4 (by decide),hat 5 (by decide),hat 6 (by decide),hat 7 (by decide),hat 8 (by decide),hat 9 (by decide)⟩,row_at h4,⟨m,⟨vk,row_at r1,r5⟩,row_at r2⟩,⟨bs,row_at h5,h7⟩,⟨es,row_at h6,h8⟩⟩
def StPair (W:World)(xa ya:Option Addr)(k:Nat):Prop:=∃ g g' kd tx ed en et kn mn nv ka kc ma mc bv ev nv' ka' kc' ma' mc' bv' ev',xa=some ⟨g,0,none⟩∧ya=some ⟨g',0,none⟩∧Hid (∀ V,Below W.heap.size W V→(V.cell? ⟨g,k*10,none⟩=some (.int .i64 kd)∧V.cell? ⟨g,k*10+1,none⟩=some (.string tx)∧V.cell? ⟨g,k*10+2,none⟩=some nv∧V.cell? ⟨g,k*10+3,none⟩=some (.int .i64 ed)∧V.cell? ⟨g,k*10+4,none⟩=some (.int .i64 en)∧V.cell? ⟨g,k*10+5,none⟩=some (.string et)∧V.cell? ⟨g,k*10+6,none⟩=some (.slice ka kn kc)∧V.cell? ⟨g,k*10+7,none⟩=some (.slice ma mn mc)∧V.cell? ⟨g,k*10+8,none⟩=some bv∧V.cell? ⟨g,k*10+9,none⟩=some ev)∧(V.cell? ⟨g',k*10,none⟩=some (.int .i64 kd)∧V.cell? ⟨g',k*10+1,none⟩=some (.string tx)∧V.cell? ⟨g',k*10+2,none⟩=some nv'∧V.cell? ⟨g',k*10+3,none⟩=some (.int .i64 ed)∧V.cell? ⟨g',k*10+4,none⟩=some (.int .i64 en)∧V.cell? ⟨g',k*10+5,none⟩=some (.string et)∧V.cell? ⟨g',k*10+6,none⟩=some (.slice ka' kn kc')∧V.cell? ⟨g',k*10+7,none⟩=some (.slice ma' mn mc')∧V.cell? ⟨g',k*10+8,none⟩=some bv'∧V.cell? ⟨g',k*10+9,none⟩=some ev'))∧
  Hid (∀ V,Below W.heap.size W V→Calls Tryz.prog 15 #[nv,nv'] V fun e w'=>e= .returned (.bool true)∧Below W.heap.size W w')∧
  Hid (∀ V,Below W.heap.size W V→Calls Tryz.prog 16 #[.slice (some ⟨V.heap.size,0,none⟩) 1 1,.slice (some ⟨V.heap.size+1,0,none⟩) 1 1] ((V.alloc (.cells #[.int .i64 ed,.int .i64 en,.string et,.slice ka kn kc,.slice ma mn mc] 38)).alloc (.cells #[.int .i64 ed,.int .i64 en,.string et,.slice ka' kn kc',.slice ma' mn mc'] 38)) fun e w'=>e= .returned (.bool true)∧Below W.heap.size W w')∧
  Hid (∀ V,Below W.heap.size W V→Calls Tryz.prog 16 #[.slice (some ⟨V.heap.size+1,0,none⟩) 1 1,.slice (some ⟨V.heap.size,0,none⟩) 1 1] ((V.alloc (.cells #[.int .i64 ed,.int .i64 en,.string et,.slice ka' kn kc',.slice ma' mn mc'] 38)).alloc (.cells #[.int .i64 ed,.int .i64 en,.string et,.slice ka kn kc,.slice ma mn mc] 38)) fun e w'=>e= .returned (.bool true)∧Below W.heap.size W w')∧
  Hid (∀ V,Below W.heap.size W V→Calls Tryz.prog 9 #[bv,bv'] V fun e w'=>e= .returned (.bool true)∧Below W.heap.size W w')∧
  Hid (∀ V,Below W.heap.size W V→Calls Tryz.prog 9 #[ev,ev'] V fun e w'=>e= .returned (.bool true)∧Below W.heap.size W w')
set_option linter.unusedSimpArgs false in
set_option linter.unusedVariables false in
theorem SStmts_walk (xa ya:Option Addr)(n xc yc:Nat)(w:World)(hn:n≤maxLen)(HA:Hid (∀ k V,Below w.heap.size w V→k<n→StPair V xa ya k)):
  Calls Tryz.prog 9 #[.slice xa n xc,.slice ya n yc] w fun e w'=>e= .returned (.bool true)∧Below w.heap.size w w':=by
 have HN:Hid (n≤maxLen):=hn
 clear hn
 go_enter Tryz.func9,Tryz.ntmps9
 go_wp2
 go_loopw [5] (fun i wr=>∃ k:Nat,k≤n∧i= .int .i64 k∧Below w.heap.size w wr) (fun i _=>n-(intOf i).toNat)
 case atStart=>exact⟨0,Nat.zero_le _,rfl,Below.refl _ _⟩
 case round=>
  obtain⟨k,hk,rfl,hb⟩:=hrel
  by_cases hlt:k<n
  ·have hki:(k:Int)<(n:Int):=by omega
   have hwr:=wrap1 hlt HN.out
   obtain⟨g,g',kd,tx,ed,en,et,kn,mn,nv,ka,kc,ma,mc,bv,ev,nv',ka',kc',ma',mc',bv',ev',rfl,rfl,HC,HT,HE1,HE2,HB,HF⟩:=HA.out k wr hb hlt
   obtain⟨W,hW⟩:∃ W,W=wr:=⟨_,rfl⟩
   rw[←hW]at HC HT HE1 HE2 HB HF hb ⊢
   clear hW
   have HD:Hid (Below W.heap.size W W.drew):=(Below.refl _ W).drew
   have HAl:Hid (∀ V o,Below W.heap.size W V→Below W.heap.size W (V.alloc o)):=fun V o hV=>hV.alloc hV.size o
   have a0:=fun V hV=>(HC.out V hV).1.1
   have b0:=fun V hV=>(HC.out V hV).2.1
   have a1:=fun V hV=>(HC.out V hV).1.2.1
   have b1:=fun V hV=>(HC.out V hV).2.2.1
   have a2:=fun V hV=>(HC.out V hV).1.2.2.1
   have b2:=fun V hV=>(HC.out V hV).2.2.2.1
   have a3:=fun V hV=>(HC.out V hV).1.2.2.2.1
   have b3:=fun V hV=>(HC.out V hV).2.2.2.2.1
   have a4:=fun V hV=>(HC.out V hV).1.2.2.2.2.1
   have b4:=fun V hV=>(HC.out V hV).2.2.2.2.2.1
   have a5:=fun V hV=>(HC.out V hV).1.2.2.2.2.2.1
   have b5:=fun V hV=>(HC.out V hV).2.2.2.2.2.2.1
   have a6:=fun V hV=>(HC.out V hV).1.2.2.2.2.2.2.1
   have b6:=fun V hV=>(HC.out V hV).2.2.2.2.2.2.2.1
   have a7:=fun V hV=>(HC.out V hV).1.2.2.2.2.2.2.2.1
   have b7:=fun V hV=>(HC.out V hV).2.2.2.2.2.2.2.2.1
   have a8:=fun V hV=>(HC.out V hV).1.2.2.2.2.2.2.2.2.1
   have b8:=fun V hV=>(HC.out V hV).2.2.2.2.2.2.2.2.2.1
   have a9:=fun V hV=>(HC.out V hV).1.2.2.2.2.2.2.2.2.2
   have b9:=fun V hV=>(HC.out V hV).2.2.2.2.2.2.2.2.2.2
   have HBb:Hid (Below w.heap.size w W):=hb
   clear HC hb HA
   go_wp2
   simp only[List.append_eq,List.cons_append,List.nil_append]
   refine wp_region_held_drew (S:=fun V=>Below W.heap.size W V) (by kernel_rfl) HD.out (fun hHeld=>?_)
   refine tK2 (i:=0) (v:=?_) rfl (by kernel_rfl) (fun _ _ _ h=>h) (Or.inl ⟨by rfl,?_⟩) (by assumption) ?_
   rotate_left
   ·intro V hSV
    (try dsimp only at hSV)
    go_simp
    try with_reducible rfl
   try simp only[Act.put,pA,pB,pC,pD,pE,pF]
   refine tK2 (i:=1) (v:=?_) rfl (by kernel_rfl) (fun _ _ _ h=>h) (Or.inl ⟨by rfl,?_⟩) (by assumption) ?_
   rotate_left
   ·intro V hSV
    (try dsimp only at hSV)
    go_simp
    try with_reducible rfl
   try simp only[Act.put,pA,pB,pC,pD,pE,pF]
   refine tK2 (i:=2) (v:=?_) rfl (by kernel_rfl) (fun _ _ _ h=>h) (Or.inl ⟨by rfl,?_⟩) (by assumption) ?_
   rotate_left
   ·intro V hSV
    (try dsimp only at hSV)
    go_simp
    try with_reducible rfl
   try simp only[Act.put,pA,pB,pC,pD,pE,pF]
   refine tK2 (i:=3) (v:=?_) rfl (by kernel_rfl) (fun _ _ _ h=>h) (Or.inl ⟨by rfl,?_⟩) (by assumption) ?_
   rotate_left
   ·intro V hSV
    (try dsimp only at hSV)
    go_simp
    try with_reducible rfl
   try simp only[Act.put,pA,pB,pC,pD,pE,pF]
   refine tK2 (i:=4) (v:=?_) rfl (by kernel_rfl) (fun _ _ _ h=>h) (Or.inl ⟨by rfl,?_⟩) (by assumption) ?_
   rotate_left
   ·intro V hSV
    (try dsimp only at hSV)
    go_simp
    try with_reducible rfl
   try simp only[Act.put,pA,pB,pC,pD,pE,pF]
   refine tK2 (i:=5) (v:=?_) rfl (by kernel_rfl) (fun _ _ _ h=>h) (Or.inl ⟨by rfl,?_⟩) (by assumption) ?_
   rotate_left
   ·intro V hSV
    (try dsimp only at hSV)
    go_simp
    try with_reducible rfl
   try simp only[Act.put,pA,pB,pC,pD,pE,pF]
   refine tK2 (i:=6) (v:=?_) rfl (by kernel_rfl) (fun _ _ _ h=>h) (Or.inl ⟨by rfl,?_⟩) (by assumption) ?_
   rotate_left
   ·intro V hSV
    (try dsimp only at hSV)
    go_simp
    try with_reducible rfl
   try simp only[Act.put,pA,pB,pC,pD,pE,pF]
   refine tK2 (i:=7) (v:=?_) rfl (by kernel_rfl) (fun _ _ _ h=>h) (Or.inl ⟨by rfl,?_⟩) (by assumption) ?_
   rotate_left
   ·intro V hSV
    (try dsimp only at hSV)
    go_simp
    try with_reducible rfl
   try simp only[Act.put,pA,pB,pC,pD,pE,pF]
   refine tK2 (i:=8) (v:=?_) rfl (by kernel_rfl) (fun _ _ _ h=>h) (Or.inl ⟨by rfl,?_⟩) (by assumption) ?_
   rotate_left
   ·intro V hSV
    (try dsimp only at hSV)
    go_simp
    try with_reducible rfl
   try simp only[Act.put,pA,pB,pC,pD,pE,pF]
   refine tK2 (i:=9) (v:=?_) rfl (by kernel_rfl) (fun _ _ _ h=>h) (Or.inl ⟨by rfl,?_⟩) (by assumption) ?_
   rotate_left
   ·intro V hSV
    (try dsimp only at hSV)
    go_simp
    try with_reducible rfl
   try simp only[Act.put,pA,pB,pC,pD,pE,pF]
   refine tK2 (i:=10) (v:=?_) rfl (by kernel_rfl) (fun _ _ _ h=>h) (Or.inl ⟨by rfl,?_⟩) (by assumption) ?_
   rotate_left
   ·intro V hSV
    (try dsimp only at hSV)
    go_simp
    try with_reducible rfl
   try simp only[Act.put,pA,pB,pC,pD,pE,pF]
   refine tK2 (i:=11) (v:=?_) rfl (by kernel_rfl) (fun _ _ _ h=>h) (Or.inl ⟨by rfl,?_⟩) (by assumption) ?_
   rotate_left
   ·intro V hSV
    (try dsimp only at hSV)
    go_simp
    try with_reducible rfl
   try simp only[Act.put,pA,pB,pC,pD,pE,pF]
   refine tK2 (i:=12) (v:=?_) rfl (by kernel_rfl) (fun _ _ _ h=>h) (Or.inl ⟨by rfl,?_⟩) (by assumption) ?_
   rotate_left
   ·intro V hSV
    (try dsimp only at hSV)
    go_simp
    try with_reducible rfl
   try simp only[Act.put,pA,pB,pC,pD,pE,pF]
   refine tK2 (i:=13) (v:=?_) rfl (by kernel_rfl) (fun _ _ _ h=>h) (Or.inl ⟨by rfl,?_⟩) (by assumption) ?_
   rotate_left
   ·intro V hSV
    (try dsimp only at hSV)
    go_simp
    try with_reducible rfl
   try simp only[Act.put,pA,pB,pC,pD,pE,pF]
   refine tK2 (i:=14) (v:=?_) rfl (by kernel_rfl) (fun _ _ _ h=>h) (Or.inl ⟨by rfl,?_⟩) (by assumption) ?_
   rotate_left
   ·intro V hSV
    (try dsimp only at hSV)
    go_simp
    try with_reducible rfl
   try simp only[Act.put,pA,pB,pC,pD,pE,pF]
   refine tK2 (i:=15) (v:=?_) rfl (by kernel_rfl) (fun _ _ _ h=>h) (Or.inl ⟨by rfl,?_⟩) (by assumption) ?_
   rotate_left
   ·intro V hSV
    (try dsimp only at hSV)
    go_simp
    try with_reducible rfl
   try simp only[Act.put,pA,pB,pC,pD,pE,pF]
   refine tK2 (i:=16) (v:=?_) rfl (by kernel_rfl) (fun _ _ _ h=>h) (Or.inl ⟨by rfl,?_⟩) (by assumption) ?_
   rotate_left
   ·intro V hSV
    (try dsimp only at hSV)
    go_simp
    try with_reducible rfl
   try simp only[Act.put,pA,pB,pC,pD,pE,pF]
   refine tK2 (i:=17) (v:=?_) rfl (by kernel_rfl) (fun _ _ _ h=>h) (Or.inl ⟨by rfl,?_⟩) (by assumption) ?_
   rotate_left
   ·intro V hSV
    (try dsimp only at hSV)
    go_simp
    try with_reducible rfl
   try simp only[Act.put,pA,pB,pC,pD,pE,pF]
   as_aux_lemma=>
    refine tK2 (i:=18) (v:=?_) rfl (by kernel_rfl) (fun _ _ _ h=>h) (Or.inl ⟨by rfl,?_⟩) (by assumption) ?_
    rotate_left
    ·intro V hSV
     (try dsimp only at hSV)
     go_simp
     try with_reducible rfl
    try simp only[Act.put,pA,pB,pC,pD,pE,pF]
    refine tK2 (i:=19) (v:=?_) rfl (by kernel_rfl) (fun _ _ _ h=>h) (Or.inl ⟨by rfl,?_⟩) (by assumption) ?_
    rotate_left
    ·intro V hSV
     (try dsimp only at hSV)
     go_simp
     try with_reducible rfl
    try simp only[Act.put,pA,pB,pC,pD,pE,pF]
    refine tK2 (i:=20) (v:=?_) rfl (by kernel_rfl) (fun _ _ _ h=>h) (Or.inl ⟨by rfl,?_⟩) (by assumption) ?_
    rotate_left
    ·intro V hSV
     (try dsimp only at hSV)
     go_simp
     try with_reducible rfl
    try simp only[Act.put,pA,pB,pC,pD,pE,pF]
    refine tK2 (i:=21) (v:=?_) rfl (by kernel_rfl) (fun _ _ _ h=>h) (Or.inl ⟨by rfl,?_⟩) (by assumption) ?_
    rotate_left
    ·intro V hSV
     (try dsimp only at hSV)
     go_simp
     try with_reducible rfl
    try simp only[Act.put,pA,pB,pC,pD,pE,pF]
    refine tK2 (i:=22) (v:=?_) rfl (by kernel_rfl) (fun _ _ _ h=>h) (Or.inl ⟨by rfl,?_⟩) (by assumption) ?_
    rotate_left
    ·intro V hSV
     (try dsimp only at hSV)
     go_simp
     try with_reducible rfl
    try simp only[Act.put,pA,pB,pC,pD,pE,pF]
    refine tK2 (i:=23) (v:=?_) rfl (by kernel_rfl) (fun _ _ _ h=>h) (Or.inl ⟨by rfl,?_⟩) (by assumption) ?_
    rotate_left
    ·intro V hSV
     (try dsimp only at hSV)
     go_simp
     try with_reducible rfl
    try simp only[Act.put,pA,pB,pC,pD,pE,pF]
    refine tK2 (i:=24) (v:=?_) rfl (by kernel_rfl) (fun _ _ _ h=>h) (Or.inl ⟨by rfl,?_⟩) (by assumption) ?_
    rotate_left
    ·intro V hSV
     (try dsimp only at hSV)
     go_simp
     try with_reducible rfl
    try simp only[Act.put,pA,pB,pC,pD,pE,pF]
    refine tK2 (i:=25) (v:=?_) rfl (by kernel_rfl) (fun _ _ _ h=>h) (Or.inl ⟨by rfl,?_⟩) (by assumption) ?_
    rotate_left
    ·intro V hSV
     (try dsimp only at hSV)
     go_simp
     try with_reducible rfl
    try simp only[Act.put,pA,pB,pC,pD,pE,pF]
    refine tK2 (i:=26) (v:=?_) rfl (by kernel_rfl) (fun _ _ _ h=>h) (Or.inl ⟨by rfl,?_⟩) (by assumption) ?_
    rotate_left
    ·intro V hSV
     (try dsimp only at hSV)
     go_simp
     try with_reducible rfl
    try simp only[Act.put,pA,pB,pC,pD,pE,pF]
    refine tK2 (i:=27) (v:=?_) rfl (by kernel_rfl) (fun _ _ _ h=>h) (Or.inl ⟨by rfl,?_⟩) (by assumption) ?_
    rotate_left
    ·intro V hSV
     (try dsimp only at hSV)
     go_simp
     try with_reducible rfl
    try simp only[Act.put,pA,pB,pC,pD,pE,pF]
    refine tK2 (i:=28) (v:=?_) rfl (by kernel_rfl) (fun _ _ _ h=>h) (Or.inl ⟨by rfl,?_⟩) (by assumption) ?_
    rotate_left
    ·intro V hSV
     (try dsimp only at hSV)
     go_simp
     try with_reducible rfl
    try simp only[Act.put,pA,pB,pC,pD,pE,pF]
    refine tK2 (i:=29) (v:=?_) rfl (by kernel_rfl) (fun _ _ _ h=>h) (Or.inl ⟨by rfl,?_⟩) (by assumption) ?_
    rotate_left
    ·intro V hSV
     (try dsimp only at hSV)
     go_simp
     try with_reducible rfl
    try simp only[Act.put,pA,pB,pC,pD,pE,pF]
    refine tK2 (i:=30) (v:=?_) rfl (by kernel_rfl) (fun _ _ _ h=>h) (Or.inl ⟨by rfl,?_⟩) (by assumption) ?_
    rotate_left
    ·intro V hSV
     (try dsimp only at hSV)
     go_simp
     try with_reducible rfl
    try simp only[Act.put,pA,pB,pC,pD,pE,pF]
    refine tK2 (i:=31) (v:=?_) rfl (by kernel_rfl) (fun _ _ _ h=>h) (Or.inl ⟨by rfl,?_⟩) (by assumption) ?_
    rotate_left
    ·intro V hSV
     (try dsimp only at hSV)
     go_simp
     try with_reducible rfl
    try simp only[Act.put,pA,pB,pC,pD,pE,pF]
    refine tK2 (i:=32) (v:=?_) rfl (by kernel_rfl) (fun _ _ _ h=>h) (Or.inl ⟨by rfl,?_⟩) (by assumption) ?_
    rotate_left
    ·intro V hSV
     (try dsimp only at hSV)
     go_simp
     try with_reducible rfl
    try simp only[Act.put,pA,pB,pC,pD,pE,pF]
    refine tK2 (i:=33) (v:=?_) rfl (by kernel_rfl) (fun _ _ _ h=>h) (Or.inl ⟨by rfl,?_⟩) (by assumption) ?_
    rotate_left
    ·intro V hSV
     (try dsimp only at hSV)
     go_simp
     try with_reducible rfl
    try simp only[Act.put,pA,pB,pC,pD,pE,pF]
    refine tK2 (i:=34) (v:=?_) rfl (by kernel_rfl) (fun _ _ _ h=>h) (Or.inl ⟨by rfl,?_⟩) (by assumption) ?_
    rotate_left
    ·intro V hSV
     (try dsimp only at hSV)
     go_simp
     try with_reducible rfl
    try simp only[Act.put,pA,pB,pC,pD,pE,pF]
    refine wpAnyH_ready (rs:=[35]) (by kernel_rfl) (by simp) (AllReadyH.cons rfl (fun K hK=>?_) AllReadyH.nil)
    rw[if_pos (by rfl)]
    try simp only[List.getElem_toArray,List.getElem_cons_zero,List.getElem_cons_succ]
    go_simp
    refine(HT.out _ (by with_reducible assumption)).mono ?_
    rintro e w1 ⟨rfl,h1⟩
    refine hK.out _ _ h1 (fun hHeld=>?_)
    clear hK K
    try simp only[Act.put,pA,pB,pC,pD,pE,pF]
    as_aux_lemma=>
     refine tK2 (i:=36) (v:=?_) rfl (by kernel_rfl) (fun _ _ _ h=>h) (Or.inl ⟨by rfl,?_⟩) (by assumption) ?_
     rotate_left
     ·intro V hSV
      (try dsimp only at hSV)
      go_simp
      try with_reducible rfl
     try simp only[Act.put,pA,pB,pC,pD,pE,pF]
     refine tK2 (i:=37) (v:=?_) rfl (by kernel_rfl) (fun _ _ _ h=>h) (Or.inl ⟨by rfl,?_⟩) (by assumption) ?_
     rotate_left
     ·intro V hSV
      (try dsimp only at hSV)
      go_simp
      try with_reducible rfl
     try simp only[Act.put,pA,pB,pC,pD,pE,pF]
     refine tK2 (i:=38) (v:=?_) rfl (by kernel_rfl) (fun _ _ _ h=>h) (Or.inl ⟨by rfl,?_⟩) (by assumption) ?_
     rotate_left
     ·intro V hSV
      (try dsimp only at hSV)
      go_simp
      try with_reducible rfl
     try simp only[Act.put,pA,pB,pC,pD,pE,pF]
     refine tK2 (i:=39) (v:=?_) rfl (by kernel_rfl) (fun _ _ _ h=>h) (Or.inl ⟨by rfl,?_⟩) (by assumption) ?_
     rotate_left
     ·intro V hSV
      (try dsimp only at hSV)
      go_simp
      try with_reducible rfl
     try simp only[Act.put,pA,pB,pC,pD,pE,pF]
     refine tK2 (i:=40) (v:=?_) rfl (by kernel_rfl) (fun _ _ _ h=>h) (Or.inl ⟨by rfl,?_⟩) (by assumption) ?_
     rotate_left
     ·intro V hSV
      (try dsimp only at hSV)
      go_simp
      try with_reducible rfl
     try simp only[Act.put,pA,pB,pC,pD,pE,pF]
     refine tK2 (i:=41) (v:=?_) rfl (by kernel_rfl) (fun _ _ _ h=>h) (Or.inl ⟨by rfl,?_⟩) (by assumption) ?_
     rotate_left
     ·intro V hSV
      (try dsimp only at hSV)
      go_simp
      try with_reducible rfl
     try simp only[Act.put,pA,pB,pC,pD,pE,pF]
     refine tK2 (i:=42) (v:=?_) rfl (by kernel_rfl) (fun _ _ _ h=>h) (Or.inl ⟨by rfl,?_⟩) (by assumption) ?_
     rotate_left
     ·intro V hSV
      (try dsimp only at hSV)
      go_simp
      try with_reducible rfl
     try simp only[Act.put,pA,pB,pC,pD,pE,pF]
     refine tK2 (i:=43) (v:=?_) rfl (by kernel_rfl) (fun _ _ _ h=>h) (Or.inl ⟨by rfl,?_⟩) (by assumption) ?_
     rotate_left
     ·intro V hSV
      (try dsimp only at hSV)
      go_simp
      try with_reducible rfl
     try simp only[Act.put,pA,pB,pC,pD,pE,pF]
     refine tK2 (i:=45) (v:=?_) rfl (by kernel_rfl) (fun _ _ _ h=>h) (Or.inl ⟨by rfl,?_⟩) (by assumption) ?_
     rotate_left
     ·intro V hSV
      (try dsimp only at hSV)
      go_simp
      try with_reducible rfl
     try simp only[Act.put,pA,pB,pC,pD,pE,pF]
     refine tK2 (i:=46) (v:=?_) rfl (by kernel_rfl) (fun _ _ _ h=>h) (Or.inl ⟨by rfl,?_⟩) (by assumption) ?_
     rotate_left
     ·intro V hSV
      (try dsimp only at hSV)
      go_simp
      try with_reducible rfl
     try simp only[Act.put,pA,pB,pC,pD,pE,pF]
     refine tK2 (i:=47) (v:=?_) rfl (by kernel_rfl) (fun _ _ _ h=>h) (Or.inl ⟨by rfl,?_⟩) (by assumption) ?_
     rotate_left
     ·intro V hSV
      (try dsimp only at hSV)
      go_simp
      try with_reducible rfl
     try simp only[Act.put,pA,pB,pC,pD,pE,pF]
     refine tK2 (i:=48) (v:=?_) rfl (by kernel_rfl) (fun _ _ _ h=>h) (Or.inl ⟨by rfl,?_⟩) (by assumption) ?_
     rotate_left
     ·intro V hSV
      (try dsimp only at hSV)
      go_simp
      try with_reducible rfl
     try simp only[Act.put,pA,pB,pC,pD,pE,pF]
     refine tK2 (i:=49) (v:=?_) rfl (by kernel_rfl) (fun _ _ _ h=>h) (Or.inl ⟨by rfl,?_⟩) (by assumption) ?_
     rotate_left
     ·intro V hSV
      (try dsimp only at hSV)
      go_simp
      try with_reducible rfl
     try simp only[Act.put,pA,pB,pC,pD,pE,pF]
     refine wpAnyH_ready (rs:=[44,50]) (by kernel_rfl) (by simp) (AllReadyH.cons rfl (fun K hK=>?_) (AllReadyH.cons rfl (fun K hK=>?_) AllReadyH.nil))
     rw[if_pos (by rfl)]
     try simp only[List.getElem_toArray,List.getElem_cons_zero,List.getElem_cons_succ]
     refine bs_wp (by rfl) (by rfl) ?_
     refine hK.out _ _ (HAl.out _ _ (by assumption)) (fun hA1=>?_)
     clear hK K
     try simp only[Act.put,pA,pB,pC,pD,pE,pF]
     as_aux_lemma=>
      refine wpAnyH_ready (rs:=[50]) (by kernel_rfl) (by simp) (AllReadyH.cons rfl (fun K hK=>?_) AllReadyH.nil)
      rw[if_pos (by rfl)]
      try simp only[List.getElem_toArray,List.getElem_cons_zero,List.getElem_cons_succ]
      refine bs_wp (by rfl) (by rfl) ?_
      refine hK.out _ _ (HAl.out _ _ (by assumption)) (fun hA2=>?_)
      clear hK K
      try simp only[Act.put,pA,pB,pC,pD,pE,pF]
      refine wpAnyH_ready (rs:=[51]) (by kernel_rfl) (by simp) (AllReadyH.cons rfl (fun K hK=>?_) AllReadyH.nil)
      rw[if_pos (by rfl)]
      try simp only[List.getElem_toArray,List.getElem_cons_zero,List.getElem_cons_succ]
      go_simp
      refine(HE1.out w1 h1).mono ?_
      rintro e w2 ⟨rfl,h2⟩
      refine hK.out _ _ h2 (fun hHeld=>?_)
      clear hK K
      try simp only[Act.put,pA,pB,pC,pD,pE,pF]
      as_aux_lemma=>
       refine tK2 (i:=52) (v:=?_) rfl (by kernel_rfl) (fun _ _ _ h=>h) (Or.inl ⟨by rfl,?_⟩) (by assumption) ?_
       rotate_left
       ·intro V hSV
        (try dsimp only at hSV)
        go_simp
        try with_reducible rfl
       try simp only[Act.put,pA,pB,pC,pD,pE,pF]
       refine tK2 (i:=53) (v:=?_) rfl (by kernel_rfl) (fun _ _ _ h=>h) (Or.inl ⟨by rfl,?_⟩) (by assumption) ?_
       rotate_left
       ·intro V hSV
        (try dsimp only at hSV)
        go_simp
        try with_reducible rfl
       try simp only[Act.put,pA,pB,pC,pD,pE,pF]
       refine tK2 (i:=54) (v:=?_) rfl (by kernel_rfl) (fun _ _ _ h=>h) (Or.inl ⟨by rfl,?_⟩) (by assumption) ?_
       rotate_left
       ·intro V hSV
        (try dsimp only at hSV)
        go_simp
        try with_reducible rfl
       try simp only[Act.put,pA,pB,pC,pD,pE,pF]
       refine tK2 (i:=55) (v:=?_) rfl (by kernel_rfl) (fun _ _ _ h=>h) (Or.inl ⟨by rfl,?_⟩) (by assumption) ?_
       rotate_left
       ·intro V hSV
        (try dsimp only at hSV)
        go_simp
        try with_reducible rfl
       try simp only[Act.put,pA,pB,pC,pD,pE,pF]
       refine tK2 (i:=56) (v:=?_) rfl (by kernel_rfl) (fun _ _ _ h=>h) (Or.inl ⟨by rfl,?_⟩) (by assumption) ?_
       rotate_left
       ·intro V hSV
        (try dsimp only at hSV)
        go_simp
        try with_reducible rfl
       try simp only[Act.put,pA,pB,pC,pD,pE,pF]
       refine tK2 (i:=57) (v:=?_) rfl (by kernel_rfl) (fun _ _ _ h=>h) (Or.inl ⟨by rfl,?_⟩) (by assumption) ?_
       rotate_left
       ·intro V hSV
        (try dsimp only at hSV)
        go_simp
        try with_reducible rfl
       try simp only[Act.put,pA,pB,pC,pD,pE,pF]
       refine tK2 (i:=58) (v:=?_) rfl (by kernel_rfl) (fun _ _ _ h=>h) (Or.inl ⟨by rfl,?_⟩) (by assumption) ?_
       rotate_left
       ·intro V hSV
        (try dsimp only at hSV)
        go_simp
        try with_reducible rfl
       try simp only[Act.put,pA,pB,pC,pD,pE,pF]
       refine tK2 (i:=59) (v:=?_) rfl (by kernel_rfl) (fun _ _ _ h=>h) (Or.inl ⟨by rfl,?_⟩) (by assumption) ?_
       rotate_left
       ·intro V hSV
        (try dsimp only at hSV)
        go_simp
        try with_reducible rfl
       try simp only[Act.put,pA,pB,pC,pD,pE,pF]
       refine tK2 (i:=60) (v:=?_) rfl (by kernel_rfl) (fun _ _ _ h=>h) (Or.inl ⟨by rfl,?_⟩) (by assumption) ?_
       rotate_left
       ·intro V hSV
        (try dsimp only at hSV)
        go_simp
        try with_reducible rfl
       try simp only[Act.put,pA,pB,pC,pD,pE,pF]
       refine tK2 (i:=61) (v:=?_) rfl (by kernel_rfl) (fun _ _ _ h=>h) (Or.inl ⟨by rfl,?_⟩) (by assumption) ?_
       rotate_left
       ·intro V hSV
        (try dsimp only at hSV)
        go_simp
        try with_reducible rfl
       try simp only[Act.put,pA,pB,pC,pD,pE,pF]
       refine tK2 (i:=62) (v:=?_) rfl (by kernel_rfl) (fun _ _ _ h=>h) (Or.inl ⟨by rfl,?_⟩) (by assumption) ?_
       rotate_left
       ·intro V hSV
        (try dsimp only at hSV)
        go_simp
        try with_reducible rfl
       try simp only[Act.put,pA,pB,pC,pD,pE,pF]
       refine tK2 (i:=63) (v:=?_) rfl (by kernel_rfl) (fun _ _ _ h=>h) (Or.inl ⟨by rfl,?_⟩) (by assumption) ?_
       rotate_left
       ·intro V hSV
        (try dsimp only at hSV)
        go_simp
        try with_reducible rfl
       try simp only[Act.put,pA,pB,pC,pD,pE,pF]
       refine tK2 (i:=64) (v:=?_) rfl (by kernel_rfl) (fun _ _ _ h=>h) (Or.inl ⟨by rfl,?_⟩) (by assumption) ?_
       rotate_left
       ·intro V hSV
        (try dsimp only at hSV)
        go_simp
        try with_reducible rfl
       try simp only[Act.put,pA,pB,pC,pD,pE,pF]
       refine wpAnyH_ready (rs:=[65]) (by kernel_rfl) (by simp) (AllReadyH.cons rfl (fun K hK=>?_) AllReadyH.nil)
       rw[if_pos (by rfl)]
       try simp only[List.getElem_toArray,List.getElem_cons_zero,List.getElem_cons_succ]
       go_simp
       refine(HB.out _ (by with_reducible assumption)).mono ?_
       rintro e w3 ⟨rfl,h3⟩
       refine hK.out _ _ h3 (fun hHeld=>?_)
       clear hK K
       try simp only[Act.put,pA,pB,pC,pD,pE,pF]
       as_aux_lemma=>
        refine tK2 (i:=66) (v:=?_) rfl (by kernel_rfl) (fun _ _ _ h=>h) (Or.inl ⟨by rfl,?_⟩) (by assumption) ?_
        rotate_left
        ·intro V hSV
         (try dsimp only at hSV)
         go_simp
         try with_reducible rfl
        try simp only[Act.put,pA,pB,pC,pD,pE,pF]
        refine tK2 (i:=67) (v:=?_) rfl (by kernel_rfl) (fun _ _ _ h=>h) (Or.inl ⟨by rfl,?_⟩) (by assumption) ?_
        rotate_left
        ·intro V hSV
         (try dsimp only at hSV)
         go_simp
         try with_reducible rfl
        try simp only[Act.put,pA,pB,pC,pD,pE,pF]
        refine tK2 (i:=68) (v:=?_) rfl (by kernel_rfl) (fun _ _ _ h=>h) (Or.inl ⟨by rfl,?_⟩) (by assumption) ?_
        rotate_left
        ·intro V hSV
         (try dsimp only at hSV)
         go_simp
         try with_reducible rfl
        try simp only[Act.put,pA,pB,pC,pD,pE,pF]
        refine tK2 (i:=69) (v:=?_) rfl (by kernel_rfl) (fun _ _ _ h=>h) (Or.inl ⟨by rfl,?_⟩) (by assumption) ?_
        rotate_left
        ·intro V hSV
         (try dsimp only at hSV)
         go_simp
         try with_reducible rfl
        try simp only[Act.put,pA,pB,pC,pD,pE,pF]
        refine tK2 (i:=70) (v:=?_) rfl (by kernel_rfl) (fun _ _ _ h=>h) (Or.inl ⟨by rfl,?_⟩) (by assumption) ?_
        rotate_left
        ·intro V hSV
         (try dsimp only at hSV)
         go_simp
         try with_reducible rfl
        try simp only[Act.put,pA,pB,pC,pD,pE,pF]
        refine tK2 (i:=71) (v:=?_) rfl (by kernel_rfl) (fun _ _ _ h=>h) (Or.inl ⟨by rfl,?_⟩) (by assumption) ?_
        rotate_left
        ·intro V hSV
         (try dsimp only at hSV)
         go_simp
         try with_reducible rfl
        try simp only[Act.put,pA,pB,pC,pD,pE,pF]
        refine tK2 (i:=72) (v:=?_) rfl (by kernel_rfl) (fun _ _ _ h=>h) (Or.inl ⟨by rfl,?_⟩) (by assumption) ?_
        rotate_left
        ·intro V hSV
         (try dsimp only at hSV)
         go_simp
         try with_reducible rfl
        try simp only[Act.put,pA,pB,pC,pD,pE,pF]
        refine tK2 (i:=73) (v:=?_) rfl (by kernel_rfl) (fun _ _ _ h=>h) (Or.inl ⟨by rfl,?_⟩) (by assumption) ?_
        rotate_left
        ·intro V hSV
         (try dsimp only at hSV)
         go_simp
         try with_reducible rfl
        try simp only[Act.put,pA,pB,pC,pD,pE,pF]
        refine tK2 (i:=74) (v:=?_) rfl (by kernel_rfl) (fun _ _ _ h=>h) (Or.inl ⟨by rfl,?_⟩) (by assumption) ?_
        rotate_left
        ·intro V hSV
         (try dsimp only at hSV)
         go_simp
         try with_reducible rfl
        try simp only[Act.put,pA,pB,pC,pD,pE,pF]
        refine tK2 (i:=75) (v:=?_) rfl (by kernel_rfl) (fun _ _ _ h=>h) (Or.inl ⟨by rfl,?_⟩) (by assumption) ?_
        rotate_left
        ·intro V hSV
         (try dsimp only at hSV)
         go_simp
         try with_reducible rfl
        try simp only[Act.put,pA,pB,pC,pD,pE,pF]
        refine tK2 (i:=76) (v:=?_) rfl (by kernel_rfl) (fun _ _ _ h=>h) (Or.inl ⟨by rfl,?_⟩) (by assumption) ?_
        rotate_left
        ·intro V hSV
         (try dsimp only at hSV)
         go_simp
         try with_reducible rfl
        try simp only[Act.put,pA,pB,pC,pD,pE,pF]
        refine tK2 (i:=77) (v:=?_) rfl (by kernel_rfl) (fun _ _ _ h=>h) (Or.inl ⟨by rfl,?_⟩) (by assumption) ?_
        rotate_left
        ·intro V hSV
         (try dsimp only at hSV)
         go_simp
         try with_reducible rfl
        try simp only[Act.put,pA,pB,pC,pD,pE,pF]
        refine tK2 (i:=78) (v:=?_) rfl (by kernel_rfl) (fun _ _ _ h=>h) (Or.inl ⟨by rfl,?_⟩) (by assumption) ?_
        rotate_left
        ·intro V hSV
         (try dsimp only at hSV)
         go_simp
         try with_reducible rfl
        try simp only[Act.put,pA,pB,pC,pD,pE,pF]
        refine wpAnyH_ready (rs:=[79]) (by kernel_rfl) (by simp) (AllReadyH.cons rfl (fun K hK=>?_) AllReadyH.nil)
        rw[if_pos (by rfl)]
        try simp only[List.getElem_toArray,List.getElem_cons_zero,List.getElem_cons_succ]
        go_simp
        refine(HF.out _ (by with_reducible assumption)).mono ?_
        rintro e w4 ⟨rfl,h4⟩
        refine hK.out _ _ h4 (fun hHeld=>?_)
        clear hK K
        try simp only[Act.put,pA,pB,pC,pD,pE,pF]
        as_aux_lemma=>
         refine tK2 (i:=80) (v:=?_) rfl (by kernel_rfl) (fun _ _ _ h=>h) (Or.inl ⟨by rfl,?_⟩) (by assumption) ?_
         rotate_left
         ·intro V hSV
          (try dsimp only at hSV)
          go_simp
          try with_reducible rfl
         try simp only[Act.put,pA,pB,pC,pD,pE,pF]
         refine tK2 (i:=81) (v:=?_) rfl (by kernel_rfl) (fun _ _ _ h=>h) (Or.inl ⟨by rfl,?_⟩) (by assumption) ?_
         rotate_left
         ·intro V hSV
          (try dsimp only at hSV)
          go_simp
          try with_reducible rfl
         try simp only[Act.put,pA,pB,pC,pD,pE,pF]
         refine wpAnyH_done (by kernel_rfl) ?_ _
         try simp only[Act.put,pA,pB,pC,pD,pE,pF]
         go_wp2
         exact⟨⟨k+1,by omega,by go_num,HBb.out.trans (h4.mono HBb.out.size)⟩,by simp[intOf];omega⟩
     rw[if_pos (by rfl)]
     try simp only[List.getElem_toArray,List.getElem_cons_zero,List.getElem_cons_succ]
     refine bs_wp (by rfl) (by rfl) ?_
     refine hK.out _ _ (HAl.out _ _ (by assumption)) (fun hA1=>?_)
     clear hK K
     try simp only[Act.put,pA,pB,pC,pD,pE,pF]
     as_aux_lemma=>
      refine wpAnyH_ready (rs:=[44]) (by kernel_rfl) (by simp) (AllReadyH.cons rfl (fun K hK=>?_) AllReadyH.nil)
      rw[if_pos (by rfl)]
      try simp only[List.getElem_toArray,List.getElem_cons_zero,List.getElem_cons_succ]
      refine bs_wp (by rfl) (by rfl) ?_
      refine hK.out _ _ (HAl.out _ _ (by assumption)) (fun hA2=>?_)
      clear hK K
      try simp only[Act.put,pA,pB,pC,pD,pE,pF]
      refine wpAnyH_ready (rs:=[51]) (by kernel_rfl) (by simp) (AllReadyH.cons rfl (fun K hK=>?_) AllReadyH.nil)
      rw[if_pos (by rfl)]
      try simp only[List.getElem_toArray,List.getElem_cons_zero,List.getElem_cons_succ]
      go_simp
      refine(HE2.out w1 h1).mono ?_
      rintro e w2 ⟨rfl,h2⟩
      refine hK.out _ _ h2 (fun hHeld=>?_)
      clear hK K
      try simp only[Act.put,pA,pB,pC,pD,pE,pF]
      as_aux_lemma=>
       refine tK2 (i:=52) (v:=?_) rfl (by kernel_rfl) (fun _ _ _ h=>h) (Or.inl ⟨by rfl,?_⟩) (by assumption) ?_
       rotate_left
       ·intro V hSV
        (try dsimp only at hSV)
        go_simp
        try with_reducible rfl
       try simp only[Act.put,pA,pB,pC,pD,pE,pF]
       refine tK2 (i:=53) (v:=?_) rfl (by kernel_rfl) (fun _ _ _ h=>h) (Or.inl ⟨by rfl,?_⟩) (by assumption) ?_
       rotate_left
       ·intro V hSV
        (try dsimp only at hSV)
        go_simp
        try with_reducible rfl
       try simp only[Act.put,pA,pB,pC,pD,pE,pF]
       refine tK2 (i:=54) (v:=?_) rfl (by kernel_rfl) (fun _ _ _ h=>h) (Or.inl ⟨by rfl,?_⟩) (by assumption) ?_
       rotate_left
       ·intro V hSV
        (try dsimp only at hSV)
        go_simp
        try with_reducible rfl
       try simp only[Act.put,pA,pB,pC,pD,pE,pF]
       refine tK2 (i:=55) (v:=?_) rfl (by kernel_rfl) (fun _ _ _ h=>h) (Or.inl ⟨by rfl,?_⟩) (by assumption) ?_
       rotate_left
       ·intro V hSV
        (try dsimp only at hSV)
        go_simp
        try with_reducible rfl
       try simp only[Act.put,pA,pB,pC,pD,pE,pF]
       refine tK2 (i:=56) (v:=?_) rfl (by kernel_rfl) (fun _ _ _ h=>h) (Or.inl ⟨by rfl,?_⟩) (by assumption) ?_
       rotate_left
       ·intro V hSV
        (try dsimp only at hSV)
        go_simp
        try with_reducible rfl
       try simp only[Act.put,pA,pB,pC,pD,pE,pF]
       refine tK2 (i:=57) (v:=?_) rfl (by kernel_rfl) (fun _ _ _ h=>h) (Or.inl ⟨by rfl,?_⟩) (by assumption) ?_
       rotate_left
       ·intro V hSV
        (try dsimp only at hSV)
        go_simp
        try with_reducible rfl
       try simp only[Act.put,pA,pB,pC,pD,pE,pF]
       refine tK2 (i:=58) (v:=?_) rfl (by kernel_rfl) (fun _ _ _ h=>h) (Or.inl ⟨by rfl,?_⟩) (by assumption) ?_
       rotate_left
       ·intro V hSV
        (try dsimp only at hSV)
        go_simp
        try with_reducible rfl
       try simp only[Act.put,pA,pB,pC,pD,pE,pF]
       refine tK2 (i:=59) (v:=?_) rfl (by kernel_rfl) (fun _ _ _ h=>h) (Or.inl ⟨by rfl,?_⟩) (by assumption) ?_
       rotate_left
       ·intro V hSV
        (try dsimp only at hSV)
        go_simp
        try with_reducible rfl
       try simp only[Act.put,pA,pB,pC,pD,pE,pF]
       refine tK2 (i:=60) (v:=?_) rfl (by kernel_rfl) (fun _ _ _ h=>h) (Or.inl ⟨by rfl,?_⟩) (by assumption) ?_
       rotate_left
       ·intro V hSV
        (try dsimp only at hSV)
        go_simp
        try with_reducible rfl
       try simp only[Act.put,pA,pB,pC,pD,pE,pF]
       refine tK2 (i:=61) (v:=?_) rfl (by kernel_rfl) (fun _ _ _ h=>h) (Or.inl ⟨by rfl,?_⟩) (by assumption) ?_
       rotate_left
       ·intro V hSV
        (try dsimp only at hSV)
        go_simp
        try with_reducible rfl
       try simp only[Act.put,pA,pB,pC,pD,pE,pF]
       refine tK2 (i:=62) (v:=?_) rfl (by kernel_rfl) (fun _ _ _ h=>h) (Or.inl ⟨by rfl,?_⟩) (by assumption) ?_
       rotate_left
       ·intro V hSV
        (try dsimp only at hSV)
        go_simp
        try with_reducible rfl
       try simp only[Act.put,pA,pB,pC,pD,pE,pF]
       refine tK2 (i:=63) (v:=?_) rfl (by kernel_rfl) (fun _ _ _ h=>h) (Or.inl ⟨by rfl,?_⟩) (by assumption) ?_
       rotate_left
       ·intro V hSV
        (try dsimp only at hSV)
        go_simp
        try with_reducible rfl
       try simp only[Act.put,pA,pB,pC,pD,pE,pF]
       refine tK2 (i:=64) (v:=?_) rfl (by kernel_rfl) (fun _ _ _ h=>h) (Or.inl ⟨by rfl,?_⟩) (by assumption) ?_
       rotate_left
       ·intro V hSV
        (try dsimp only at hSV)
        go_simp
        try with_reducible rfl
       try simp only[Act.put,pA,pB,pC,pD,pE,pF]
       refine wpAnyH_ready (rs:=[65]) (by kernel_rfl) (by simp) (AllReadyH.cons rfl (fun K hK=>?_) AllReadyH.nil)
       rw[if_pos (by rfl)]
       try simp only[List.getElem_toArray,List.getElem_cons_zero,List.getElem_cons_succ]
       go_simp
       refine(HB.out _ (by with_reducible assumption)).mono ?_
       rintro e w3 ⟨rfl,h3⟩
       refine hK.out _ _ h3 (fun hHeld=>?_)
       clear hK K
       try simp only[Act.put,pA,pB,pC,pD,pE,pF]
       as_aux_lemma=>
        refine tK2 (i:=66) (v:=?_) rfl (by kernel_rfl) (fun _ _ _ h=>h) (Or.inl ⟨by rfl,?_⟩) (by assumption) ?_
        rotate_left
        ·intro V hSV
         (try dsimp only at hSV)
         go_simp
         try with_reducible rfl
        try simp only[Act.put,pA,pB,pC,pD,pE,pF]
        refine tK2 (i:=67) (v:=?_) rfl (by kernel_rfl) (fun _ _ _ h=>h) (Or.inl ⟨by rfl,?_⟩) (by assumption) ?_
        rotate_left
        ·intro V hSV
         (try dsimp only at hSV)
         go_simp
         try with_reducible rfl
        try simp only[Act.put,pA,pB,pC,pD,pE,pF]
        refine tK2 (i:=68) (v:=?_) rfl (by kernel_rfl) (fun _ _ _ h=>h) (Or.inl ⟨by rfl,?_⟩) (by assumption) ?_
        rotate_left
        ·intro V hSV
         (try dsimp only at hSV)
         go_simp
         try with_reducible rfl
        try simp only[Act.put,pA,pB,pC,pD,pE,pF]
        refine tK2 (i:=69) (v:=?_) rfl (by kernel_rfl) (fun _ _ _ h=>h) (Or.inl ⟨by rfl,?_⟩) (by assumption) ?_
        rotate_left
        ·intro V hSV
         (try dsimp only at hSV)
         go_simp
         try with_reducible rfl
        try simp only[Act.put,pA,pB,pC,pD,pE,pF]
        refine tK2 (i:=70) (v:=?_) rfl (by kernel_rfl) (fun _ _ _ h=>h) (Or.inl ⟨by rfl,?_⟩) (by assumption) ?_
        rotate_left
        ·intro V hSV
         (try dsimp only at hSV)
         go_simp
         try with_reducible rfl
        try simp only[Act.put,pA,pB,pC,pD,pE,pF]
        refine tK2 (i:=71) (v:=?_) rfl (by kernel_rfl) (fun _ _ _ h=>h) (Or.inl ⟨by rfl,?_⟩) (by assumption) ?_
        rotate_left
        ·intro V hSV
         (try dsimp only at hSV)
         go_simp
         try with_reducible rfl
        try simp only[Act.put,pA,pB,pC,pD,pE,pF]
        refine tK2 (i:=72) (v:=?_) rfl (by kernel_rfl) (fun _ _ _ h=>h) (Or.inl ⟨by rfl,?_⟩) (by assumption) ?_
        rotate_left
        ·intro V hSV
         (try dsimp only at hSV)
         go_simp
         try with_reducible rfl
        try simp only[Act.put,pA,pB,pC,pD,pE,pF]
        refine tK2 (i:=73) (v:=?_) rfl (by kernel_rfl) (fun _ _ _ h=>h) (Or.inl ⟨by rfl,?_⟩) (by assumption) ?_
        rotate_left
        ·intro V hSV
         (try dsimp only at hSV)
         go_simp
         try with_reducible rfl
        try simp only[Act.put,pA,pB,pC,pD,pE,pF]
        refine tK2 (i:=74) (v:=?_) rfl (by kernel_rfl) (fun _ _ _ h=>h) (Or.inl ⟨by rfl,?_⟩) (by assumption) ?_
        rotate_left
        ·intro V hSV
         (try dsimp only at hSV)
         go_simp
         try with_reducible rfl
        try simp only[Act.put,pA,pB,pC,pD,pE,pF]
        refine tK2 (i:=75) (v:=?_) rfl (by kernel_rfl) (fun _ _ _ h=>h) (Or.inl ⟨by rfl,?_⟩) (by assumption) ?_
        rotate_left
        ·intro V hSV
         (try dsimp only at hSV)
         go_simp
         try with_reducible rfl
        try simp only[Act.put,pA,pB,pC,pD,pE,pF]
        refine tK2 (i:=76) (v:=?_) rfl (by kernel_rfl) (fun _ _ _ h=>h) (Or.inl ⟨by rfl,?_⟩) (by assumption) ?_
        rotate_left
        ·intro V hSV
         (try dsimp only at hSV)
         go_simp
         try with_reducible rfl
        try simp only[Act.put,pA,pB,pC,pD,pE,pF]
        refine tK2 (i:=77) (v:=?_) rfl (by kernel_rfl) (fun _ _ _ h=>h) (Or.inl ⟨by rfl,?_⟩) (by assumption) ?_
        rotate_left
        ·intro V hSV
         (try dsimp only at hSV)
         go_simp
         try with_reducible rfl
        try simp only[Act.put,pA,pB,pC,pD,pE,pF]
        refine tK2 (i:=78) (v:=?_) rfl (by kernel_rfl) (fun _ _ _ h=>h) (Or.inl ⟨by rfl,?_⟩) (by assumption) ?_
        rotate_left
        ·intro V hSV
         (try dsimp only at hSV)
         go_simp
         try with_reducible rfl
        try simp only[Act.put,pA,pB,pC,pD,pE,pF]
        refine wpAnyH_ready (rs:=[79]) (by kernel_rfl) (by simp) (AllReadyH.cons rfl (fun K hK=>?_) AllReadyH.nil)
        rw[if_pos (by rfl)]
        try simp only[List.getElem_toArray,List.getElem_cons_zero,List.getElem_cons_succ]
        go_simp
        refine(HF.out _ (by with_reducible assumption)).mono ?_
        rintro e w4 ⟨rfl,h4⟩
        refine hK.out _ _ h4 (fun hHeld=>?_)
        clear hK K
        try simp only[Act.put,pA,pB,pC,pD,pE,pF]
        as_aux_lemma=>
         refine tK2 (i:=80) (v:=?_) rfl (by kernel_rfl) (fun _ _ _ h=>h) (Or.inl ⟨by rfl,?_⟩) (by assumption) ?_
         rotate_left
         ·intro V hSV
          (try dsimp only at hSV)
          go_simp
          try with_reducible rfl
         try simp only[Act.put,pA,pB,pC,pD,pE,pF]
         refine tK2 (i:=81) (v:=?_) rfl (by kernel_rfl) (fun _ _ _ h=>h) (Or.inl ⟨by rfl,?_⟩) (by assumption) ?_
         rotate_left
         ·intro V hSV
          (try dsimp only at hSV)
          go_simp
          try with_reducible rfl
         try simp only[Act.put,pA,pB,pC,pD,pE,pF]
         refine wpAnyH_done (by kernel_rfl) ?_ _
         try simp only[Act.put,pA,pB,pC,pD,pE,pF]
         go_wp2
         exact⟨⟨k+1,by omega,by go_num,HBb.out.trans (h4.mono HBb.out.size)⟩,by simp[intOf];omega⟩
  ·obtain rfl:k=n:=by omega
   have hki:¬(k:Int)<(k:Int):=by omega
   go_wp2
   go_ret
   exact⟨rfl,hb⟩
end Go.Proofs.YtcaeeackccgclaaGreatDoor
