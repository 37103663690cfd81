/-
  What Tree of the reference of layer 13 returns: the tree that describes a graph and options, or the error. Condition: a graph in memory.
-/
import Derived.Test.YtgmidodmmlmmeaaGreatDoorMee
import Derived.Test.YtgmidodmmlmmeaaGreatDoorMtd
namespace Go.Proofs.YtgmidodmmlmmeaaGreatDoor.xpt
open Go.RowKit Go.Sort lex tre att nor
def A80 (a:Act)(n0 tb:Nat):Prop:=a=⟨#[a.tmps.getD 0 undef,a.tmps.getD 1 undef,.pointer (some ⟨n0,0,none⟩),.pointer (some ⟨n0+1,0,none⟩),.pointer (some ⟨n0+2,0,none⟩),.int .i64 0,.pointer (some ⟨tb,0,none⟩),a.tmps.getD 7 undef,a.tmps.getD 8 undef,a.tmps.getD 9 undef,a.tmps.getD 10 undef,a.tmps.getD 11 undef,a.tmps.getD 12 undef,a.tmps.getD 13 undef,a.tmps.getD 14 undef,a.tmps.getD 15 undef,a.tmps.getD 16 undef,a.tmps.getD 17 undef,a.tmps.getD 18 undef,a.tmps.getD 19 undef,a.tmps.getD 20 undef,a.tmps.getD 21 undef,a.tmps.getD 22 undef,a.tmps.getD 23 undef,a.tmps.getD 24 undef,a.tmps.getD 25 undef,a.tmps.getD 26 undef,a.tmps.getD 27 undef,a.tmps.getD 28 undef,a.tmps.getD 29 undef,a.tmps.getD 30 undef,a.tmps.getD 31 undef,a.tmps.getD 32 undef,a.tmps.getD 33 undef,a.tmps.getD 34 undef,a.tmps.getD 35 undef,a.tmps.getD 36 undef,a.tmps.getD 37 undef,a.tmps.getD 38 undef,a.tmps.getD 39 undef,a.tmps.getD 40 undef,a.tmps.getD 41 undef,a.tmps.getD 42 undef,a.tmps.getD 43 undef,a.tmps.getD 44 undef,a.tmps.getD 45 undef,a.tmps.getD 46 undef,a.tmps.getD 47 undef,a.tmps.getD 48 undef,a.tmps.getD 49 undef,a.tmps.getD 50 undef,a.tmps.getD 51 undef,a.tmps.getD 52 undef,a.tmps.getD 53 undef,a.tmps.getD 54 undef,a.tmps.getD 55 undef,a.tmps.getD 56 undef,a.tmps.getD 57 undef,a.tmps.getD 58 undef,a.tmps.getD 59 undef,a.tmps.getD 60 undef,a.tmps.getD 61 undef,a.tmps.getD 62 undef,a.tmps.getD 63 undef,a.tmps.getD 64 undef,a.tmps.getD 65 undef,a.tmps.getD 66 undef,a.tmps.getD 67 undef,a.tmps.getD 68 undef,a.tmps.getD 69 undef,a.tmps.getD 70 undef,a.tmps.getD 71 undef,a.tmps.getD 72 undef,a.tmps.getD 73 undef,a.tmps.getD 74 undef,a.tmps.getD 75 undef,a.tmps.getD 76 undef,a.tmps.getD 77 undef,a.tmps.getD 78 undef,a.tmps.getD 79 undef],[]⟩
theorem A80.use {a:Act}{n0 tb:Nat}(h:A80 a n0 tb):∃ f:Nat→Value,a=⟨#[f 0,f 1,.pointer (some ⟨n0,0,none⟩),.pointer (some ⟨n0+1,0,none⟩),.pointer (some ⟨n0+2,0,none⟩),.int .i64 0,.pointer (some ⟨tb,0,none⟩),f 7,f 8,f 9,f 10,f 11,f 12,f 13,f 14,f 15,f 16,f 17,f 18,f 19,f 20,f 21,f 22,f 23,f 24,f 25,f 26,f 27,f 28,f 29,f 30,f 31,f 32,f 33,f 34,f 35,f 36,f 37,f 38,f 39,f 40,f 41,f 42,f 43,f 44,f 45,f 46,f 47,f 48,f 49,f 50,f 51,f 52,f 53,f 54,f 55,f 56,f 57,f 58,f 59,f 60,f 61,f 62,f 63,f 64,f 65,f 66,f 67,f 68,f 69,f 70,f 71,f 72,f 73,f 74,f 75,f 76,f 77,f 78,f 79],[]⟩:=⟨fun i=>a.tmps.getD i undef,h⟩
def A80r (a:Act)(n0 tb R:Nat):Prop:=a=⟨#[a.tmps.getD 0 undef,a.tmps.getD 1 undef,.pointer (some ⟨n0,0,none⟩),.pointer (some ⟨n0+1,0,none⟩),.pointer (some ⟨n0+2,0,none⟩),.int .i64 0,.pointer (some ⟨tb,0,none⟩),.pointer (some ⟨R,0,none⟩),a.tmps.getD 8 undef,a.tmps.getD 9 undef,a.tmps.getD 10 undef,a.tmps.getD 11 undef,a.tmps.getD 12 undef,a.tmps.getD 13 undef,a.tmps.getD 14 undef,a.tmps.getD 15 undef,a.tmps.getD 16 undef,a.tmps.getD 17 undef,a.tmps.getD 18 undef,a.tmps.getD 19 undef,a.tmps.getD 20 undef,a.tmps.getD 21 undef,a.tmps.getD 22 undef,a.tmps.getD 23 undef,a.tmps.getD 24 undef,a.tmps.getD 25 undef,a.tmps.getD 26 undef,a.tmps.getD 27 undef,a.tmps.getD 28 undef,a.tmps.getD 29 undef,a.tmps.getD 30 undef,a.tmps.getD 31 undef,a.tmps.getD 32 undef,a.tmps.getD 33 undef,a.tmps.getD 34 undef,a.tmps.getD 35 undef,a.tmps.getD 36 undef,a.tmps.getD 37 undef,a.tmps.getD 38 undef,a.tmps.getD 39 undef,a.tmps.getD 40 undef,a.tmps.getD 41 undef,a.tmps.getD 42 undef,a.tmps.getD 43 undef,a.tmps.getD 44 undef,a.tmps.getD 45 undef,a.tmps.getD 46 undef,a.tmps.getD 47 undef,a.tmps.getD 48 undef,a.tmps.getD 49 undef,a.tmps.getD 50 undef,a.tmps.getD 51 undef,a.tmps.getD 52 undef,a.tmps.getD 53 undef,a.tmps.getD 54 undef,a.tmps.getD 55 undef,a.tmps.getD 56 undef,a.tmps.getD 57 undef,a.tmps.getD 58 undef,a.tmps.getD 59 undef,a.tmps.getD 60 undef,a.tmps.getD 61 undef,a.tmps.getD 62 undef,a.tmps.getD 63 undef,a.tmps.getD 64 undef,a.tmps.getD 65 undef,a.tmps.getD 66 undef,a.tmps.getD 67 undef,a.tmps.getD 68 undef,a.tmps.getD 69 undef,a.tmps.getD 70 undef,a.tmps.getD 71 undef,a.tmps.getD 72 undef,a.tmps.getD 73 undef,a.tmps.getD 74 undef,a.tmps.getD 75 undef,a.tmps.getD 76 undef,a.tmps.getD 77 undef,a.tmps.getD 78 undef,a.tmps.getD 79 undef],[]⟩
theorem A80r.use {a:Act}{n0 tb R:Nat}(h:A80r a n0 tb R):∃ f:Nat→Value,a=⟨#[f 0,f 1,.pointer (some ⟨n0,0,none⟩),.pointer (some ⟨n0+1,0,none⟩),.pointer (some ⟨n0+2,0,none⟩),.int .i64 0,.pointer (some ⟨tb,0,none⟩),.pointer (some ⟨R,0,none⟩),f 8,f 9,f 10,f 11,f 12,f 13,f 14,f 15,f 16,f 17,f 18,f 19,f 20,f 21,f 22,f 23,f 24,f 25,f 26,f 27,f 28,f 29,f 30,f 31,f 32,f 33,f 34,f 35,f 36,f 37,f 38,f 39,f 40,f 41,f 42,f 43,f 44,f 45,f 46,f 47,f 48,f 49,f 50,f 51,f 52,f 53,f 54,f 55,f 56,f 57,f 58,f 59,f 60,f 61,f 62,f 63,f 64,f 65,f 66,f 67,f 68,f 69,f 70,f 71,f 72,f 73,f 74,f 75,f 76,f 77,f 78,f 79],[]⟩:=⟨fun i=>a.tmps.getD i undef,h⟩
def A80b (a:Act)(n0 tb R:Nat)(b:Bool):Prop:=a=⟨#[a.tmps.getD 0 undef,a.tmps.getD 1 undef,.pointer (some ⟨n0,0,none⟩),.pointer (some ⟨n0+1,0,none⟩),.pointer (some ⟨n0+2,0,none⟩),.int .i64 0,.pointer (some ⟨tb,0,none⟩),.pointer (some ⟨R,0,none⟩),a.tmps.getD 8 undef,a.tmps.getD 9 undef,a.tmps.getD 10 undef,a.tmps.getD 11 undef,a.tmps.getD 12 undef,a.tmps.getD 13 undef,a.tmps.getD 14 undef,a.tmps.getD 15 undef,a.tmps.getD 16 undef,a.tmps.getD 17 undef,a.tmps.getD 18 undef,a.tmps.getD 19 undef,a.tmps.getD 20 undef,a.tmps.getD 21 undef,a.tmps.getD 22 undef,a.tmps.getD 23 undef,a.tmps.getD 24 undef,a.tmps.getD 25 undef,a.tmps.getD 26 undef,a.tmps.getD 27 undef,a.tmps.getD 28 undef,a.tmps.getD 29 undef,a.tmps.getD 30 undef,a.tmps.getD 31 undef,a.tmps.getD 32 undef,a.tmps.getD 33 undef,a.tmps.getD 34 undef,a.tmps.getD 35 undef,a.tmps.getD 36 undef,a.tmps.getD 37 undef,a.tmps.getD 38 undef,a.tmps.getD 39 undef,a.tmps.getD 40 undef,a.tmps.getD 41 undef,a.tmps.getD 42 undef,a.tmps.getD 43 undef,a.tmps.getD 44 undef,a.tmps.getD 45 undef,a.tmps.getD 46 undef,a.tmps.getD 47 undef,a.tmps.getD 48 undef,a.tmps.getD 49 undef,a.tmps.getD 50 undef,a.tmps.getD 51 undef,.bool b,a.tmps.getD 53 undef,a.tmps.getD 54 undef,a.tmps.getD 55 undef,a.tmps.getD 56 undef,a.tmps.getD 57 undef,a.tmps.getD 58 undef,a.tmps.getD 59 undef,a.tmps.getD 60 undef,a.tmps.getD 61 undef,a.tmps.getD 62 undef,a.tmps.getD 63 undef,a.tmps.getD 64 undef,a.tmps.getD 65 undef,a.tmps.getD 66 undef,a.tmps.getD 67 undef,a.tmps.getD 68 undef,a.tmps.getD 69 undef,a.tmps.getD 70 undef,a.tmps.getD 71 undef,a.tmps.getD 72 undef,a.tmps.getD 73 undef,a.tmps.getD 74 undef,a.tmps.getD 75 undef,a.tmps.getD 76 undef,a.tmps.getD 77 undef,a.tmps.getD 78 undef,a.tmps.getD 79 undef],[]⟩
theorem A80b.use {a:Act}{n0 tb R:Nat}{b:Bool}(h:A80b a n0 tb R b):∃ f:Nat→Value,a=⟨#[f 0,f 1,.pointer (some ⟨n0,0,none⟩),.pointer (some ⟨n0+1,0,none⟩),.pointer (some ⟨n0+2,0,none⟩),.int .i64 0,.pointer (some ⟨tb,0,none⟩),.pointer (some ⟨R,0,none⟩),f 8,f 9,f 10,f 11,f 12,f 13,f 14,f 15,f 16,f 17,f 18,f 19,f 20,f 21,f 22,f 23,f 24,f 25,f 26,f 27,f 28,f 29,f 30,f 31,f 32,f 33,f 34,f 35,f 36,f 37,f 38,f 39,f 40,f 41,f 42,f 43,f 44,f 45,f 46,f 47,f 48,f 49,f 50,f 51,.bool b,f 53,f 54,f 55,f 56,f 57,f 58,f 59,f 60,f 61,f 62,f 63,f 64,f 65,f 66,f 67,f 68,f 69,f 70,f 71,f 72,f 73,f 74,f 75,f 76,f 77,f 78,f 79],[]⟩:=⟨fun i=>a.tmps.getD i undef,h⟩
structure TB (B:Nat)(W:World)(tb:Nat)(Gn:ByteArray)(d:Bool)(v:Value)(D:List Sv)(l:List St):Prop where
 bx:blk W tb 33 #[.string Gn,.bool d,v]
 rs:RT B W tb v D
 ls:D.map Sv.s=l
theorem TB.below {B:Nat}{W W':World}{tb:Nat}{Gn:ByteArray}{d:Bool}{v:Value}{D:List Sv}{l:List St}(h:TB B W tb Gn d v D l)(hb:Below W.heap.size W W'):TB B W' tb Gn d v D l:=⟨blk_keep hb h.bx,h.rs.below hb,h.ls⟩
theorem TB.store {B:Nat}{W:World}{tb:Nat}{Gn:ByteArray}{d:Bool}{u v:Value}{D:List Sv}{l:List St}(h:blk W tb 33 #[.string Gn,.bool d,u])(hr:RT B W tb v D)(hl:D.map Sv.s=l):TB B (W.setCell ⟨tb,2,none⟩ v) tb Gn d v D l:=by
 refine ⟨blk_set h v,hr.pk (Pk.set tb W 2 v) (fun q hq e=>?_) (Or.inl rfl),hl⟩
 subst e
 rcases hr.1.2 with ⟨rfl,-⟩ | ⟨g,cap,cur,rfl,-,hk,-⟩
 ·cases hq
 ·obtain rfl:g=q:=Option.some.inj hq
  unfold xpt.blk at h;rw [h] at hk;cases hk
structure TI (w:World)(n0 tb:Nat)(gb:Array Value)(Gn:ByteArray)(d:Bool)(v:Value)(D:List Sv)(l:List St)(W:World):Prop where
 lo:n0+3≤tb
 tb:TB (n0+3) W tb Gn d v D l
 bw:Below n0 w W
 gx:blk W n0 26 gb
 rx:blk W (n0+2) 33 #[.string ⟨#[]⟩,.bool false,.slice none 0 0]
theorem TI.below {w W W':World}{n0 tb:Nat}{gb:Array Value}{Gn:ByteArray}{d:Bool}{v:Value}{D:List Sv}{l:List St}(h:TI w n0 tb gb Gn d v D l W)(hb:Below W.heap.size W W'):TI w n0 tb gb Gn d v D l W' :=
 ⟨h.lo,h.tb.below hb,h.bw.trans (hb.mono (Nat.le_of_lt (blk_lt h.gx))),blk_keep hb h.gx,blk_keep hb h.rx⟩
def TreM (w:World)(n0:Nat)(gb:Array Value)(Gn:ByteArray)(d:Bool)(l:List St)(a:Act)(W:World):Prop:=∃ tb v D,A80 a n0 tb∧TI w n0 tb gb Gn d v D l W
theorem TreM.box (w:World)(n0:Nat)(gb:Array Value)(Gn:ByteArray)(d:Bool)(l:List St):∃ M:Act→World→Prop,Hid (∀ a W,M a W ↔ TreM w n0 gb Gn d l a W):=⟨TreM w n0 gb Gn d l,Lh fun _ _=>Iff.rfl⟩
def TrrM (w:World)(R n0 tb:Nat)(gb:Array Value)(r:List St × Nat × Nat)(Gn:ByteArray)(d:Bool)(l:List St)(a:Act)(W:World):Prop:=∃ v D,A80r a n0 tb R∧TI w n0 tb gb Gn d v D l W∧∃ a b c d e,blk W R 80 #[a,b,c,d,e,.int .i64 r.2.1,.int .i64 r.2.2]
theorem TrrM.box (w:World)(R n0 tb:Nat)(gb:Array Value)(r:List St × Nat × Nat)(Gn:ByteArray)(d:Bool)(l:List St):∃ M:Act→World→Prop,Hid (∀ a W,M a W ↔ TrrM w R n0 tb gb r Gn d l a W):=⟨TrrM w R n0 tb gb r Gn d l,Lh fun _ _=>Iff.rfl⟩
def TrbM (w:World)(R n0 tb:Nat)(gb:Array Value)(Gn:ByteArray)(d:Bool)(l:List St)(b:Bool)(a:Act)(W:World):Prop:=∃ v D,A80b a n0 tb R b∧TI w n0 tb gb Gn d v D l W
theorem TrbM.box (w:World)(R n0 tb:Nat)(gb:Array Value)(Gn:ByteArray)(d:Bool)(l:List St)(b:Bool):∃ M:Act→World→Prop,Hid (∀ a W,M a W ↔ TrbM w R n0 tb gb Gn d l b a W):=⟨TrbM w R n0 tb gb Gn d l b,Lh fun _ _=>Iff.rfl⟩
def TroO (T:Tr)(E:Int)(w:World)(e:Ending)(w':World):Prop:=∃ tv,e=.returned (.tuple #[tv,.int .i64 E])∧TrV w' tv T∧Below w.heap.size w w'
theorem em_trv (w:World):TrV w (.agg #[.string ⟨#[]⟩,.bool false,.slice none 0 0]) emT:=⟨_,rfl,Nat.zero_le _,Sts.nil w⟩
theorem grv_es {w:World}{a b n e c:Value}{g:gra.Gr}(h:gra.GrV w (.agg #[a,b,n,e,c]) g):gra.Eds w e g.es:=by obtain ⟨_,_,_,e',-,-,h2,-⟩:=h;cases e';exact h2
theorem cnt_tree (g:gra.Gr)(o:Op')(hg:GV g):cnt (treeG g o).body≤400:=by
 have h1:=blk_cnt g (g.ns.length+g.cs.length+1) (-1) 0 0 (Nat.zero_le _) (Nat.zero_le _)
 have h2:=blk0_le g (g.ns.length+g.cs.length+1) (-1) 0 0 (Nat.zero_le _) (Nat.zero_le _)
 have h3:=hg.nl
 have h4:=hg.el
 have h5:=hg.cl
 have h6:cnt (g.es.map (edgeS g.ns))=g.es.length:=by
  generalize g.es=es
  clear h4
  induction es with
  | nil=>rfl
  | cons e t ih=>rw [List.map_cons,cnt_cons,ih,List.length_cons];show 1+0+_=_;omega
 have h7:cnt (optS o)≤5:=by
  unfold optS
  simp only [cnt_app]
  have h8:∀ (P:Prop) [Decidable P] (k v:List UInt8),cnt (if P then [] else [setS k v])≤1:=fun P _ k v=>by
   split
   ·exact Nat.zero_le _
   ·exact Nat.le_refl _
  have a1:=h8 (o.mode=0) wMode (modes.getD o.mode.toNat [])
  have a2:=h8 (o.ns=10000) wNodesep (fmtL o.ns)
  have a3:=h8 (o.rs=20000) wRanksep (fmtL o.rs)
  have a4:=h8 (o.mg=5000) wMargin (fmtL o.mg)
  have a5:=h8 (o.rd=8) wRounds (fmtL (1000*o.rd))
  omega
 show cnt (optS o ++ ((blk0 g).1 ++ g.es.map (edgeS g.ns)))≤400
 rw [cnt_app,cnt_app,h6]
 have:(blk0 g).1=(blkW g (g.ns.length+g.cs.length+1) (-1) 0 0).1:=rfl
 rw [this]
 omega
set_option maxRecDepth 100000 in
set_option maxHeartbeats 16000000 in
theorem rtree_of (g:gra.Gr)(o:Op')(gv:Value)(T:Tr)(E:Int)(w:World)(h:Hid (gra.GrV w gv g))(hr:Hid (treeE g o=(T,E))) :
    Calls Tryz.prog 11 #[gv,opV o] w (TroO T E w):=by
 have hmx:Tryz.prog.follows .mixedOrders=true:=by kernel_rfl
 obtain ⟨nv,ev,cv,rfl,hgn,hns,hes,hcs⟩:=id h.out
 obtain ⟨no,nc,rfl,-,hnm,-⟩:=id hns
 obtain ⟨eo,ec,rfl,-,-,-⟩:=id hes
 obtain ⟨co,cc,rfl,-,-,-⟩:=id hcs
 clear hns hes hcs
 obtain ⟨Gn,hGn⟩:∃ X,bb g.nm=X:=⟨_,rfl⟩
 have HGN:=Lh hGn
 have HG:=Lh (show gra.GrV w (.agg #[.string Gn,.bool g.dir,.slice no g.ns.length nc,.slice eo g.es.length ec,.slice co g.cs.length cc]) g by rw [← hGn];exact h.out)
 rw [show gra.bb g.nm=Gn from hGn]
 clear h hGn
 unfold opV
 obtain ⟨ve,hve⟩:∃ ve,gra.validE g=ve:=⟨_,rfl⟩
 obtain ⟨ob,hob⟩:∃ ob,okO o=ob:=⟨_,rfl⟩
 have HVE:=Lh hve
 have HOB:=Lh hob
 clear hve hob
 have k1:=blk_new w #[.string Gn,.bool g.dir,.slice no g.ns.length nc,.slice eo g.es.length ec,.slice co g.cs.length cc] 26
 have b1:=al1 w (.cells #[.string Gn,.bool g.dir,.slice no g.ns.length nc,.slice eo g.es.length ec,.slice co g.cs.length cc] 26)
 have q1:(w.alloc (.cells #[.string Gn,.bool g.dir,.slice no g.ns.length nc,.slice eo g.es.length ec,.slice co g.cs.length cc] 26)).heap.size=w.heap.size+1:=by simp
 have HK1:=Lh k1
 have HB1:=Lh b1
 have HQ1:=Lh q1
 clear k1 b1 q1
 go_enter Tryz.func11,Tryz.ntmps11
 go_wp2_with fail
 generalize w.alloc (.cells #[.string Gn,.bool g.dir,.slice no g.ns.length nc,.slice eo g.es.length ec,.slice co g.cs.length cc] 26)=wa at HK1 HB1 HQ1 ⊢
 have hq1:=HQ1.out
 have b2:=al1 wa (.cells #[.int .i64 o.mode,.int .i64 o.ns,.int .i64 o.rs,.int .i64 o.mg,.int .i64 o.rd] 28)
 have k2:=blk_new wa #[.int .i64 o.mode,.int .i64 o.ns,.int .i64 o.rs,.int .i64 o.mg,.int .i64 o.rd] 28
 have q2:(wa.alloc (.cells #[.int .i64 o.mode,.int .i64 o.ns,.int .i64 o.rs,.int .i64 o.mg,.int .i64 o.rd] 28)).heap.size=w.heap.size+2:=by simp;omega
 generalize wa.alloc (.cells #[.int .i64 o.mode,.int .i64 o.ns,.int .i64 o.rs,.int .i64 o.mg,.int .i64 o.rd] 28)=wb at b2 k2 q2 ⊢
 have b3:=al1 wb (.cells #[.string ⟨#[]⟩,.bool false,.slice none 0 0] 33)
 have k3:=blk_new wb #[.string ⟨#[]⟩,.bool false,.slice none 0 0] 33
 have q3:(wb.alloc (.cells #[.string ⟨#[]⟩,.bool false,.slice none 0 0] 33)).heap.size=w.heap.size+3:=by simp;omega
 generalize wb.alloc (.cells #[.string ⟨#[]⟩,.bool false,.slice none 0 0] 33)=w1 at b3 k3 q3 ⊢
 rw [q2] at k3
 rw [hq1] at k2
 have hk1:=blk_keep b3 (blk_keep b2 HK1.out)
 have hk2:=blk_keep b3 k2
 have hb1:=below_keep b3 (below_keep b2 HB1.out)
 clear b2 b3 k2 HK1 HB1 HQ1 hq1 q2
 obtain ⟨n0,hn0⟩:∃ n0,w.heap.size=n0:=⟨_,rfl⟩
 rw [hn0] at hk1 hk2 hb1 k3 q3
 simp only [hn0]
 have HN0:=Lh hn0
 clear hn0
 have HB1:=Lh hb1
 refine (gra.gvalid_of _ g ve w1 (Lh (HG.out.keep (show Below w.heap.size w w1 by rw [HN0.out];exact hb1))) HVE).mono ?_
 rintro e w2 ⟨rfl,hb2⟩
 have HK1:=Lh (blk_keep hb2 hk1)
 have HK2:=Lh (blk_keep hb2 hk2)
 have HK3:=Lh (blk_keep hb2 k3)
 have HB2:=Lh (hb1.trans (hb2.mono (by omega)))
 clear hb1 hb2 hk1 hk2 k3 HB1
 by_cases v0:ve=0
 case neg =>
  have bv:(ve != 0)=true:=by rw [bne_iff_ne];exact v0
  have HE:Hid (T=emT∧E=1):=Lh (by have:=hr.out;unfold treeE at this;rw [if_pos (Or.inl (by rw [HVE.out];exact v0))] at this;exact ⟨(Prod.mk.inj this).1.symm,(Prod.mk.inj this).2.symm⟩)
  clear v0
  have f0:w2.frozen? ⟨n0+2,0,none⟩=false:=blk_free HK3.out
  have f1:w2.frozen? ⟨n0+2,1,none⟩=false:=blk_free HK3.out
  have f2:w2.frozen? ⟨n0+2,2,none⟩=false:=blk_free HK3.out
  have z0:w2.cell? ⟨n0+2,0,none⟩=some (.string ⟨#[]⟩):=by rw [blk_cell HK3.out];rfl
  have z1:w2.cell? ⟨n0+2,1,none⟩=some (.bool false):=by rw [blk_cell HK3.out];rfl
  have z2:w2.cell? ⟨n0+2,2,none⟩=some (.slice none 0 0):=by rw [blk_cell HK3.out];rfl
  go_wp2
  obtain ⟨rfl,rfl⟩:=HE.out
  have hbx:=blk_set3 (HK3.out) (.string ⟨#[]⟩) (.bool false) (.slice none 0 0)
  have r0:=blk_cell (o:=0) hbx
  have r1:=blk_cell (o:=1) hbx
  have r2:=blk_cell (o:=2) hbx
  refine bodyPost_ret (v:=.tuple #[.agg #[.string ⟨#[]⟩,.bool false,.slice none 0 0],.int .i64 1]) (by simp [results,Tryz.results11,go_sem,r0,r1,r2]) rfl ?_
  exact ⟨_,rfl,em_trv _,by rw [HN0.out];exact below_set3 (HB2.out) (by omega) _ _ _⟩
 have bv:(ve != 0)=false:=by rw [v0];rfl
 have o0:w2.cell? ⟨n0+1,0,none⟩=some (.int .i64 o.mode):=by rw [blk_cell HK2.out];rfl
 have o1:w2.cell? ⟨n0+1,1,none⟩=some (.int .i64 o.ns):=by rw [blk_cell HK2.out];rfl
 have o2:w2.cell? ⟨n0+1,2,none⟩=some (.int .i64 o.rs):=by rw [blk_cell HK2.out];rfl
 have o3:w2.cell? ⟨n0+1,3,none⟩=some (.int .i64 o.mg):=by rw [blk_cell HK2.out];rfl
 have o4:w2.cell? ⟨n0+1,4,none⟩=some (.int .i64 o.rd):=by rw [blk_cell HK2.out];rfl
 go_wp2_with fail
 refine (rvalido_of o ob w2 HOB).mono ?_
 rintro e w3 ⟨rfl,hb3⟩
 have HK1':=Lh (blk_keep hb3 HK1.out)
 have HK2':=Lh (blk_keep hb3 HK2.out)
 have HK3':=Lh (blk_keep hb3 HK3.out)
 have HB3:=Lh (HB2.out.trans (hb3.mono (Nat.le_of_lt (blk_lt HK1.out))))
 clear hb3 HK1 HK2 HK3 HB2 o0 o1 o2 o3 o4
 cases ob
 case false =>
  have HE:Hid (T=emT∧E=1):=Lh (by have:=hr.out;unfold treeE at this;rw [if_pos (Or.inr HOB.out)] at this;exact ⟨(Prod.mk.inj this).1.symm,(Prod.mk.inj this).2.symm⟩)
  have f0:w3.frozen? ⟨n0+2,0,none⟩=false:=blk_free HK3'.out
  have f1:w3.frozen? ⟨n0+2,1,none⟩=false:=blk_free HK3'.out
  have f2:w3.frozen? ⟨n0+2,2,none⟩=false:=blk_free HK3'.out
  have z0:w3.cell? ⟨n0+2,0,none⟩=some (.string ⟨#[]⟩):=by rw [blk_cell HK3'.out];rfl
  have z1:w3.cell? ⟨n0+2,1,none⟩=some (.bool false):=by rw [blk_cell HK3'.out];rfl
  have z2:w3.cell? ⟨n0+2,2,none⟩=some (.slice none 0 0):=by rw [blk_cell HK3'.out];rfl
  go_wp2
  obtain ⟨rfl,rfl⟩:=HE.out
  have hbx:=blk_set3 (HK3'.out) (.string ⟨#[]⟩) (.bool false) (.slice none 0 0)
  have r0:=blk_cell (o:=0) hbx
  have r1:=blk_cell (o:=1) hbx
  have r2:=blk_cell (o:=2) hbx
  refine bodyPost_ret (v:=.tuple #[.agg #[.string ⟨#[]⟩,.bool false,.slice none 0 0],.int .i64 1]) (by simp [results,Tryz.results11,go_sem,r0,r1,r2]) rfl ?_
  exact ⟨_,rfl,em_trv _,by rw [HN0.out];exact below_set3 (HB3.out) (by omega) _ _ _⟩
 have HV:Hid (gra.validE g=0):=Lh (by rw [HVE.out];exact v0)
 have HGV:=Lh (gv_of HV.out)
 have HR:Hid ((if (blk0 g).2.1 < g.ns.length∨(blk0 g).2.2 < g.cs.length then (emT,1) else if validT (treeG g o)≠0 then (emT,validT (treeG g o)) else (treeG g o,0))=(T,E)):=Lh (by have:=hr.out;unfold treeE at this;rw [if_neg (fun q=>q.elim (fun e=>e HV.out) (fun e=>by rw [HOB.out] at e;cases e))] at this;exact this)
 have HOP:=Lh HOB.out
 clear HVE v0 bv hr HOB
 go_wp2_with fail
 obtain ⟨M,HM⟩:=TreM.box w n0 #[.string Gn,.bool g.dir,.slice no g.ns.length nc,.slice eo g.es.length ec,.slice co g.cs.length cc] Gn g.dir (optS o)
 refine then_mid M ?_ ?_
 ·have g0:w3.cell? ⟨n0,0,none⟩=some (.string Gn):=by rw [blk_cell HK1'.out];rfl
  have g1:w3.cell? ⟨n0,1,none⟩=some (.bool g.dir):=by rw [blk_cell HK1'.out];rfl
  have o0:w3.cell? ⟨n0+1,0,none⟩=some (.int .i64 o.mode):=by rw [blk_cell HK2'.out];rfl
  have o1:w3.cell? ⟨n0+1,1,none⟩=some (.int .i64 o.ns):=by rw [blk_cell HK2'.out];rfl
  have o2:w3.cell? ⟨n0+1,2,none⟩=some (.int .i64 o.rs):=by rw [blk_cell HK2'.out];rfl
  have o3:w3.cell? ⟨n0+1,3,none⟩=some (.int .i64 o.mg):=by rw [blk_cell HK2'.out];rfl
  have o4:w3.cell? ⟨n0+1,4,none⟩=some (.int .i64 o.rd):=by rw [blk_cell HK2'.out];rfl
  have hz3:=HB3.out.size
  rw [HN0.out] at hz3
  have hz4:=blk_lt HK3'.out
  refine tstart (fun W:World=>W.cell? ⟨n0,0,none⟩=some (.string Gn)∧W.cell? ⟨n0,1,none⟩=some (.bool g.dir)∧W.cell? ⟨n0+1,0,none⟩=some (.int .i64 o.mode)∧W.cell? ⟨n0+1,1,none⟩=some (.int .i64 o.ns)∧W.cell? ⟨n0+1,2,none⟩=some (.int .i64 o.rs)∧W.cell? ⟨n0+1,3,none⟩=some (.int .i64 o.mg)∧W.cell? ⟨n0+1,4,none⟩=some (.int .i64 o.rd)) 8 (by kernel_rfl) ⟨s_drew (g0),s_drew (g1),s_drew (o0),s_drew (o1),s_drew (o2),s_drew (o3),s_drew (o4)⟩ (fun hHeld=>?_)
  have hb:=b_drew w3
  replace hHeld:((fun W:World=>W.cell? ⟨n0,0,none⟩=some (.string Gn)∧W.cell? ⟨n0,1,none⟩=some (.bool g.dir)∧W.cell? ⟨n0+1,0,none⟩=some (.int .i64 o.mode)∧W.cell? ⟨n0+1,1,none⟩=some (.int .i64 o.ns)∧W.cell? ⟨n0+1,2,none⟩=some (.int .i64 o.rs)∧W.cell? ⟨n0+1,3,none⟩=some (.int .i64 o.mg)∧W.cell? ⟨n0+1,4,none⟩=some (.int .i64 o.rd))) w3.drew:=hHeld
  generalize w3.drew=y0 at hHeld hb ⊢
  refine ton 0 19 (.pointer (some ⟨n0,0,none⟩)) ?_
  refine ton 1 20 (.string Gn) ?_
  refine ton 2 21 (.pointer (some ⟨n0,1,none⟩)) ?_
  refine ton 3 22 (.bool g.dir) ?_
  refine ton 4 23 (.agg #[.int .i64 o.mode,.int .i64 o.ns,.int .i64 o.rs,.int .i64 o.mg,.int .i64 o.rd]) ?_
  try simp only [sA,sB,sC]
  clear g0 g1 o0 o1 o2 o3 o4
  refine tgo2 (i:=5) (j:=7) (by kernel_rfl) rfl rfl (fun K hK=>?_) (fun K hK=>?_)
  ·
   go_simp
   refine (ropts13_of o y0 HOP).mono ?_
   rintro e yc ⟨hb',v,D,rfl,hrs,hD⟩
   obtain ⟨vo,vc,rfl⟩:=hrs.form
   refine hK.out _ _ (fun _=>(by obtain ⟨k0,k1,k2,k3,k4,k5,k6⟩:=hHeld;exact ⟨cell_later' hb' k0,cell_later' hb' k1,cell_later' hb' k2,cell_later' hb' k3,cell_later' hb' k4,cell_later' hb' k5,cell_later' hb' k6⟩)) (fun hHeld=>?_)
   replace hHeld:=hHeld (by decide)
   clear hK K
   try simp only [sA,sB,sC]
   have hlc:w3.heap.size≤y0.heap.size:=hb.size
   have hrs2:=hrs
   replace hb:=below_keep hb' hb
   clear hb'
   refine ton 6 25 (.agg #[.string Gn,.bool g.dir,.slice vo D.length vc]) ?_
   try simp only [sA,sB,sC]
   refine tgo (i:=7) (by kernel_rfl) rfl (fun K hK=>?_)
   have hs:=blk_new yc #[.string ⟨#[]⟩,.bool false,.slice none 0 0] 33
   have hb':=al1 yc (.cells #[.string ⟨#[]⟩,.bool false,.slice none 0 0] 33)
   go_simp
   refine hK.out _ _ (fun _=>(by obtain ⟨k0,k1,k2,k3,k4,k5,k6⟩:=hHeld;exact ⟨s_alloc k0,s_alloc k1,s_alloc k2,s_alloc k3,s_alloc k4,s_alloc k5,s_alloc k6⟩)) (fun hHeld=>?_)
   replace hHeld:=hHeld (by decide)
   clear hK K
   try simp only [sA,sB,sC]
   have hls:w3.heap.size≤yc.heap.size:=hb.size
   have hrt:=(hrs2.rt (B:=n0+3) (tb:=yc.heap.size) (by omega) (Or.inr (Nat.le_refl _))).below hb'
   obtain ⟨tb,hss⟩:∃ s,yc.heap.size=s:=⟨_,rfl⟩
   rw [hss] at hs hls hrt
   simp only [hss]
   replace hb:=below_keep hb' hb
   generalize yc.alloc (.cells #[.string ⟨#[]⟩,.bool false,.slice none 0 0] 33)=z1 at hs hb hHeld hrt ⊢
   clear hb' hss
   have f0:z1.frozen? ⟨tb,0,none⟩=false:=blk_free hs
   have e0:z1.cell? ⟨tb,0,none⟩=some (.string ⟨#[]⟩):=by rw [blk_cell hs];rfl
   have f1:z1.frozen? ⟨tb,1,none⟩=false:=blk_free hs
   have e1:z1.cell? ⟨tb,1,none⟩=some (.bool false):=by rw [blk_cell hs];rfl
   have f2:z1.frozen? ⟨tb,2,none⟩=false:=blk_free hs
   have e2:z1.cell? ⟨tb,2,none⟩=some (.slice none 0 0):=by rw [blk_cell hs];rfl
   refine tgo (i:=8) (by kernel_rfl) rfl (fun K hK=>?_)
   go_simp
   refine hK.out _ _ (fun h=>absurd rfl h) (fun hHeld=>?_)
   clear hK K hHeld
   try simp only [sA,sB,sC]
   refine tdone (by kernel_rfl) ?_ _
   have hx1:blk ((z1.setCell ⟨tb,0,none⟩ (.string Gn)).setCell ⟨tb,1,none⟩ (.bool g.dir)) tb 33 #[.string Gn,.bool g.dir,.slice none 0 0]:=blk_set (blk_set hs (.string Gn)) (.bool g.dir)
   have hrt1:=hrt.pk (Pk.set tb z1 0 (.string Gn)) (rt_ne hrt hs) (Or.inl rfl)
   have hrt2:=hrt1.pk (Pk.set tb _ 1 (.bool g.dir)) (rt_ne hrt hs) (Or.inl rfl)
   have htb:=TB.store hx1 hrt2 hD
   have hbt:=HB3.out.trans (hb.mono (by omega))
   exact ⟨rfl,(HM.out _ _).2 ⟨tb,_,D,rfl,by omega,htb,below_set3 hbt (by omega) _ _ _,blk_far3 (blk_keep hb HK1'.out) (by omega) _ _ _,blk_far3 (blk_keep hb HK3'.out) (by omega) _ _ _⟩⟩
  ·
   have hs:=blk_new y0 #[.string ⟨#[]⟩,.bool false,.slice none 0 0] 33
   have hb':=al1 y0 (.cells #[.string ⟨#[]⟩,.bool false,.slice none 0 0] 33)
   go_simp
   refine hK.out _ _ (fun _=>(by obtain ⟨k0,k1,k2,k3,k4,k5,k6⟩:=hHeld;exact ⟨s_alloc k0,s_alloc k1,s_alloc k2,s_alloc k3,s_alloc k4,s_alloc k5,s_alloc k6⟩)) (fun hHeld=>?_)
   replace hHeld:=hHeld (by decide)
   clear hK K
   try simp only [sA,sB,sC]
   have hls:w3.heap.size≤y0.heap.size:=hb.size
   obtain ⟨tb,hss⟩:∃ s,y0.heap.size=s:=⟨_,rfl⟩
   rw [hss] at hs hls
   simp only [hss]
   replace hb:=below_keep hb' hb
   generalize y0.alloc (.cells #[.string ⟨#[]⟩,.bool false,.slice none 0 0] 33)=z0 at hs hb hHeld ⊢
   clear hb' hss
   refine tgo (i:=5) (by kernel_rfl) rfl (fun K hK=>?_)
   go_simp
   refine (ropts13_of o z0 HOP).mono ?_
   rintro e yc ⟨hb',v,D,rfl,hrs,hD⟩
   obtain ⟨vo,vc,rfl⟩:=hrs.form
   refine hK.out _ _ (fun _=>(by obtain ⟨k0,k1,k2,k3,k4,k5,k6⟩:=hHeld;exact ⟨cell_later' hb' k0,cell_later' hb' k1,cell_later' hb' k2,cell_later' hb' k3,cell_later' hb' k4,cell_later' hb' k5,cell_later' hb' k6⟩)) (fun hHeld=>?_)
   replace hHeld:=hHeld (by decide)
   clear hK K
   try simp only [sA,sB,sC]
   have hlc:w3.heap.size≤z0.heap.size:=hb.size
   have htl:=blk_lt hs
   have hrt:=hrs.rt (B:=n0+3) (tb:=tb) (by omega) (Or.inl htl)
   replace hs:=blk_keep hb' hs
   replace hb:=below_keep hb' hb
   clear hb'
   refine ton 6 25 (.agg #[.string Gn,.bool g.dir,.slice vo D.length vc]) ?_
   try simp only [sA,sB,sC]
   have f0:yc.frozen? ⟨tb,0,none⟩=false:=blk_free hs
   have e0:yc.cell? ⟨tb,0,none⟩=some (.string ⟨#[]⟩):=by rw [blk_cell hs];rfl
   have f1:yc.frozen? ⟨tb,1,none⟩=false:=blk_free hs
   have e1:yc.cell? ⟨tb,1,none⟩=some (.bool false):=by rw [blk_cell hs];rfl
   have f2:yc.frozen? ⟨tb,2,none⟩=false:=blk_free hs
   have e2:yc.cell? ⟨tb,2,none⟩=some (.slice none 0 0):=by rw [blk_cell hs];rfl
   refine tgo (i:=8) (by kernel_rfl) rfl (fun K hK=>?_)
   go_simp
   refine hK.out _ _ (fun h=>absurd rfl h) (fun hHeld=>?_)
   clear hK K hHeld
   try simp only [sA,sB,sC]
   refine tdone (by kernel_rfl) ?_ _
   have hx1:blk ((yc.setCell ⟨tb,0,none⟩ (.string Gn)).setCell ⟨tb,1,none⟩ (.bool g.dir)) tb 33 #[.string Gn,.bool g.dir,.slice none 0 0]:=blk_set (blk_set hs (.string Gn)) (.bool g.dir)
   have hrt1:=hrt.pk (Pk.set tb yc 0 (.string Gn)) (rt_ne hrt hs) (Or.inl rfl)
   have hrt2:=hrt1.pk (Pk.set tb _ 1 (.bool g.dir)) (rt_ne hrt hs) (Or.inl rfl)
   have htb:=TB.store hx1 hrt2 hD
   have hbt:=HB3.out.trans (hb.mono (by omega))
   exact ⟨rfl,(HM.out _ _).2 ⟨tb,_,D,rfl,by omega,htb,below_set3 hbt (by omega) _ _ _,blk_far3 (blk_keep hb HK1'.out) (by omega) _ _ _,blk_far3 (blk_keep hb HK3'.out) (by omega) _ _ _⟩⟩
 intro a4 w4 hm
 obtain ⟨tb,v,D,ha,hti⟩:=(HM.out _ _).1 hm
 obtain ⟨f,rfl⟩:=ha.use
 clear HM hm M ha HK1' HK2' HK3' HB3
 have HTI:=Lh hti
 clear hti
 have c0:w4.cell? ⟨n0,0,none⟩=some (.string Gn):=by rw [blk_cell HTI.out.gx];rfl
 have c1:w4.cell? ⟨n0,1,none⟩=some (.bool g.dir):=by rw [blk_cell HTI.out.gx];rfl
 have c2:w4.cell? ⟨n0,2,none⟩=some (.slice no g.ns.length nc):=by rw [blk_cell HTI.out.gx];rfl
 have c3:w4.cell? ⟨n0,3,none⟩=some (.slice eo g.es.length ec):=by rw [blk_cell HTI.out.gx];rfl
 have c4:w4.cell? ⟨n0,4,none⟩=some (.slice co g.cs.length cc):=by rw [blk_cell HTI.out.gx];rfl
 go_wp2_with fail
 have hkr:=blk_new w4 #[.string Gn,.bool g.dir,.slice no g.ns.length nc,.slice eo g.es.length ec,.slice co g.cs.length cc,.int .i64 0,.int .i64 0] 80
 have hbr:=al1 w4 (.cells #[.string Gn,.bool g.dir,.slice no g.ns.length nc,.slice eo g.es.length ec,.slice co g.cs.length cc,.int .i64 0,.int .i64 0] 80)
 have hgr4:gra.GrV w4 (.agg #[.string Gn,.bool g.dir,.slice no g.ns.length nc,.slice eo g.es.length ec,.slice co g.cs.length cc]) g:=HG.out.keep (show Below w.heap.size w w4 by rw [HN0.out];exact HTI.out.bw)
 have hti5:=HTI.out.below hbr
 have hRlt:=blk_lt HTI.out.tb.bx
 have hn4:=blk_lt HTI.out.gx
 generalize w4.alloc (.cells #[.string Gn,.bool g.dir,.slice no g.ns.length nc,.slice eo g.es.length ec,.slice co g.cs.length cc,.int .i64 0,.int .i64 0] 80)=w5 at hkr hbr hti5 ⊢
 have hwt5:Wt w4 w5 w4.heap.size g 0 0:=⟨no,nc,eo,ec,co,cc,(by rw [show gra.bb g.nm=Gn from HGN.out];exact hgr4),hbr,Nat.le_refl _,(by rw [show gra.bb g.nm=Gn from HGN.out];exact hkr)⟩
 obtain ⟨R,hR⟩:∃ R,w4.heap.size=R:=⟨_,rfl⟩
 rw [hR] at hwt5 hRlt hn4
 simp only [hR]
 have HR4:=Lh hR
 clear hR hkr hbr hgr4
 have HTI5:=Lh hti5
 have HWT5:=Lh hwt5
 clear hti5 hwt5
 obtain ⟨r,hr0⟩:∃ r,blk0 g=r:=⟨_,rfl⟩
 have HR0:=Lh hr0
 have hDl:D.length≤400:=by
  have h1:=cnt_tree g o HGV.out
  have h2:D.length=(optS o).length:=by rw [← HTI5.out.tb.ls,List.length_map]
  have h3:(optS o).length≤cnt (treeG g o).body:=by
   show _≤cnt (optS o ++ _)
   rw [cnt_app];exact Nat.le_trans (len_cnt _) (Nat.le_add_right _ _)
  omega
 have hrl:r.1.length+g.es.length≤400:=by
  have h1:=cnt_tree g o HGV.out
  have h3:r.1.length+g.es.length≤cnt (treeG g o).body:=by
   show _≤cnt (optS o ++ ((blk0 g).1 ++ g.es.map (edgeS g.ns)))
   rw [cnt_app,cnt_app,hr0]
   have e1:=len_cnt r.1
   have e2:=len_cnt (g.es.map (edgeS g.ns))
   rw [List.length_map] at e2
   omega
  omega
 have hol:(optS o).length≤400:=by rw [← HTI5.out.tb.ls,List.length_map];exact hDl
 clear hr0
 obtain ⟨M,HM⟩:=TrrM.box w R n0 tb #[.string Gn,.bool g.dir,.slice no g.ns.length nc,.slice eo g.es.length ec,.slice co g.cs.length cc] r Gn g.dir (optS o ++ r.1)
 refine then_mid M ?_ ?_
 ·have d2:w5.cell? ⟨tb,2,none⟩=some v:=by rw [blk_cell HTI5.out.tb.bx];rfl
  refine tstart (fun W:World=>W.cell? ⟨tb,2,none⟩=some v) 6 (by kernel_rfl) (s_drew d2) (fun hHeld=>?_)
  refine ton 0 29 (.pointer (some ⟨tb,2,none⟩)) ?_
  refine ton 1 30 v ?_
  refine ton 2 31 (.pointer (some ⟨R,0,none⟩)) ?_
  try simp only [sA,sB,sC]
  refine tgo (i:=3) (by kernel_rfl) rfl (fun K hK=>?_)
  go_simp
  have hti6:=HTI5.out.below (b_drew w5)
  have hwt6:=HWT5.out.below (b_drew w5)
  have hwl:=hwt6.lt.2
  refine (rblk_of w4 R g HV (g.ns.length+g.cs.length) (g.ns.length+g.cs.length+1) (-1) 0 0 w5.drew (by omega) (by omega) (by omega) (by omega) (Lh hwt6)).mono ?_
  rintro e y ⟨vb,Db,rfl,hrsb,hDb,hwt7,-⟩
  rw [show blkW g (g.ns.length+g.cs.length+1) (-1) 0 0=r from HR0.out] at hDb hwt7
  have hti7:=HTI.out.below hwt7.base
  have d27:y.cell? ⟨tb,2,none⟩=some v:=by rw [blk_cell hti7.tb.bx];rfl
  obtain ⟨x0,x1,x2,x3,x4,hkr7⟩:=hwt7.box7
  have hzy:=hwt7.base.size
  have hty:=blk_lt hti7.tb.bx
  have htl:=hti7.lo
  have hDbl:Db.length≤400:=by rw [← List.length_map (f:=Sv.s),hDb];omega
  have hvq:∀ q,v.ownBlock=some q→q < w5.drew.heap.size:=fun q hq=>by have:=(HTI.out.tb.rs.rs.lt q hq).2;have:=(HWT5.out.lt).2;show q < w5.heap.size;rw [HR4.out] at *;omega
  have htq:tb < w5.drew.heap.size:=by have:=(HWT5.out.lt).2;show tb < w5.heap.size;omega
  have HRT:=Lh hti7.tb.rs
  have HRB:=Lh hrsb
  have hlo:=HTI.out.lo
  refine hK.out _ _ (fun _=>d27) (fun hHeld=>?_)
  replace hHeld:=hHeld (by decide)
  clear hK K
  try simp only [sA,sB,sC]
  refine tgo (i:=4) (by kernel_rfl) rfl (fun K hK=>?_)
  refine st_rtcat rfl (.tmp 30) (.tmp 32) rfl (n0+3) w5.drew.heap.size tb y v vb D Db rfl rfl HRT HRB (by omega) hvq htq (by omega) (by omega) ?_
  intro ao cap V hrt8 hg8
  have hB8:=grownB hti7.tb.rs.rs hg8.out (by omega)
  have hbx8:=grownK hti7.tb.rs.rs hg8.out hti7.tb.bx (by decide)
  have hgx8:=grownK hti7.tb.rs.rs hg8.out hti7.gx (by decide)
  have hrx8:=grownK hti7.tb.rs.rs hg8.out hti7.rx (by decide)
  have hkr8:=grownK hti7.tb.rs.rs hg8.out hkr7 (by decide)
  have d28:V.cell? ⟨tb,2,none⟩=some v:=by rw [blk_cell hbx8];rfl
  have fz8:V.frozen? ⟨tb,2,none⟩=false:=blk_free hbx8
  have hti8:TI w n0 tb #[.string Gn,.bool g.dir,.slice no g.ns.length nc,.slice eo g.es.length ec,.slice co g.cs.length cc] Gn g.dir (.slice ao (D ++ Db).length cap) (D ++ Db) (optS o ++ r.1) (V.setCell ⟨tb,2,none⟩ (.slice ao (D ++ Db).length cap)):=⟨hlo,TB.store hbx8 hrt8.out (by rw [List.map_append,HTI.out.tb.ls,hDb]),(hti7.bw.trans (hB8.mono (by omega))).setCell (by omega:n0≤tb) _,blk_far hgx8 (by omega) _,blk_far hrx8 (by omega) _⟩
  have HTI8:=Lh hti8
  refine hK.out _ _ (fun _=>d28) (fun hHeld=>?_)
  replace hHeld:=hHeld (by decide)
  clear hK K
  try simp only [sA,sB,sC]
  refine ton 5 34 (.pointer (some ⟨tb,2,none⟩)) ?_
  try simp only [sA,sB,sC]
  refine tgo (i:=6) (by kernel_rfl) rfl (fun K hK=>?_)
  go_simp
  refine hK.out _ _ (fun h=>absurd rfl h) (fun hHeld=>?_)
  clear hK K hHeld
  try simp only [sA,sB,sC]
  refine tdone (by kernel_rfl) ?_ _
  simp only [← List.length_append]
  exact ⟨trivial,(HM.out _ _).2 ⟨_,D ++ Db,rfl,HTI8.out,x0,x1,x2,x3,x4,blk_far hkr8 (by omega) _⟩⟩
 intro a6 w6 hm
 obtain ⟨v6,D6,ha,hti,hwt⟩:=(HM.out _ _).1 hm
 obtain ⟨f6,rfl⟩:=ha.use
 clear HM hm M ha HTI5 HWT5 HTI
 have HTI:=Lh hti
 obtain ⟨x0,x1,x2,x3,x4,hkr⟩:=hwt
 have HKR:=Lh hkr
 clear hti hkr
 go_wp2_with fail
 obtain ⟨M,HM⟩:=TrbM.box w R n0 tb #[.string Gn,.bool g.dir,.slice no g.ns.length nc,.slice eo g.es.length ec,.slice co g.cs.length cc] Gn g.dir (optS o ++ r.1) (decide (r.2.1 < g.ns.length) || decide (r.2.2 < g.cs.length))
 refine then_mid M ?_ ?_
 ·have t5:=fun d os=>cell_regrown (show w6.cell? ⟨R,5,none⟩=some (.int .i64 r.2.1) by rw [blk_cell HKR.out];rfl) d os
  have t6:=fun d os=>cell_regrown (show w6.cell? ⟨R,6,none⟩=some (.int .i64 r.2.2) by rw [blk_cell HKR.out];rfl) d os
  have t2:=fun d os=>cell_regrown (show w6.cell? ⟨n0,2,none⟩=some (.slice no g.ns.length nc) by rw [blk_cell HTI.out.gx];rfl) d os
  have t4:=fun d os=>cell_regrown (show w6.cell? ⟨n0,4,none⟩=some (.slice co g.cs.length cc) by rw [blk_cell HTI.out.gx];rfl) d os
  by_cases x1:r.2.1 < g.ns.length
  case pos =>
   have e1:decide ((r.2.1:Int) < (g.ns.length:Int))=true:=by rw [decide_eq_true_eq];omega
   have e1':decide (r.2.1 < g.ns.length)=true:=decide_eq_true x1
   have HBB:Hid ((decide (r.2.1 < g.ns.length) || decide (r.2.2 < g.cs.length))=true):=Lh (by rw [decide_eq_true x1];rfl)
   rw [HBB.out] at HM
   clear x1
   refine wp_region_quiet_below hmx (by kernel_rfl) ?_
   repeat (go_big_quiet_step (fail))
   refine wpQuiet_nil ?_
   intro _ hw'
   obtain ⟨⟨dq,osq⟩,hw''⟩:=hw'
   subst hw''
   exact ⟨rfl,(HM.out _ _).2 ⟨_,D6,rfl,HTI.out.below (below_regrown w6 dq osq)⟩⟩
  have e1:decide ((r.2.1:Int) < (g.ns.length:Int))=false:=by rw [decide_eq_false_iff_not];omega
  have e1':decide (r.2.1 < g.ns.length)=false:=decide_eq_false x1
  obtain ⟨b,hb⟩:∃ b,decide (r.2.2 < g.cs.length)=b:=⟨_,rfl⟩
  have e2:decide ((r.2.2:Int) < (g.cs.length:Int))=b:=by rw [← hb];simp
  have HBB:Hid ((decide (r.2.1 < g.ns.length) || decide (r.2.2 < g.cs.length))=b):=Lh (by rw [decide_eq_false x1,hb];rfl)
  rw [HBB.out] at HM
  clear x1
  refine wp_region_quiet_below hmx (by kernel_rfl) ?_
  repeat (go_big_quiet_step (fail))
  refine wpQuiet_nil ?_
  intro _ hw'
  obtain ⟨⟨dq,osq⟩,hw''⟩:=hw'
  subst hw''
  exact ⟨rfl,(HM.out _ _).2 ⟨_,D6,rfl,HTI.out.below (below_regrown w6 dq osq)⟩⟩
 intro a7 w7 hm
 obtain ⟨v7,D7,ha,hti⟩:=(HM.out _ _).1 hm
 clear HM hm M HTI HKR
 have HTI:=Lh hti
 clear hti
 by_cases x1:r.2.1 < g.ns.length∨r.2.2 < g.cs.length
 case pos =>
  rw [show (decide (r.2.1 < g.ns.length) || decide (r.2.2 < g.cs.length))=true by rw [Bool.or_eq_true];exact x1.imp decide_eq_true decide_eq_true] at ha
  obtain ⟨f7,rfl⟩:=ha.use
  clear ha
  have HE:Hid (T=emT∧E=1):=Lh (by have:=HR.out;rw [HR0.out,if_pos x1] at this;exact ⟨(Prod.mk.inj this).1.symm,(Prod.mk.inj this).2.symm⟩)
  clear x1 HR
  have f0:w7.frozen? ⟨n0+2,0,none⟩=false:=blk_free HTI.out.rx
  have f1:w7.frozen? ⟨n0+2,1,none⟩=false:=blk_free HTI.out.rx
  have f2:w7.frozen? ⟨n0+2,2,none⟩=false:=blk_free HTI.out.rx
  have z0:w7.cell? ⟨n0+2,0,none⟩=some (.string ⟨#[]⟩):=by rw [blk_cell HTI.out.rx];rfl
  have z1:w7.cell? ⟨n0+2,1,none⟩=some (.bool false):=by rw [blk_cell HTI.out.rx];rfl
  have z2:w7.cell? ⟨n0+2,2,none⟩=some (.slice none 0 0):=by rw [blk_cell HTI.out.rx];rfl
  go_wp2
  obtain ⟨rfl,rfl⟩:=HE.out
  have hbx:=blk_set3 (HTI.out.rx) (.string ⟨#[]⟩) (.bool false) (.slice none 0 0)
  have r0:=blk_cell (o:=0) hbx
  have r1:=blk_cell (o:=1) hbx
  have r2:=blk_cell (o:=2) hbx
  refine bodyPost_ret (v:=.tuple #[.agg #[.string ⟨#[]⟩,.bool false,.slice none 0 0],.int .i64 1]) (by simp [results,Tryz.results11,go_sem,r0,r1,r2]) rfl ?_
  exact ⟨_,rfl,em_trv _,by rw [HN0.out];exact below_set3 (HTI.out.bw) (by omega) _ _ _⟩
 rw [show (decide (r.2.1 < g.ns.length) || decide (r.2.2 < g.cs.length))=false by rw [Bool.or_eq_false_iff];exact ⟨decide_eq_false (fun q=>x1 (Or.inl q)),decide_eq_false (fun q=>x1 (Or.inr q))⟩] at ha
 obtain ⟨f7,rfl⟩:=ha.use
 have HR2:Hid ((if validT (treeG g o)≠0 then (emT,validT (treeG g o)) else (treeG g o,0))=(T,E)):=Lh (by have:=HR.out;rw [HR0.out,if_neg x1] at this;exact this)
 clear ha x1 HR
 go_wp2_with fail
 go_loopw [8] (fun i wr=>∃ (k:Nat) (v:Value) (D:List Sv),i=.int .i64 k∧k≤g.es.length∧TI w n0 tb #[.string Gn,.bool g.dir,.slice no g.ns.length nc,.slice eo g.es.length ec,.slice co g.cs.length cc] Gn g.dir v D ((optS o ++ r.1) ++ (g.es.take k).map (edgeS g.ns)) wr) (fun i _=>g.es.length - (intOf i).toNat)
 case atStart=>exact ⟨0,v7,D7,rfl,Nat.zero_le _,by rw [List.take_zero,List.map_nil,List.append_nil];exact HTI.out⟩
 case round =>
  obtain ⟨k,v,D,rfl,hk,hti⟩:=hrel
  rename World=>wr
  have HTIK:=Lh hti
  clear hti HTI
  have hel:g.es.length≤256:=HGV.out.el
  have c3:wr.cell? ⟨n0,3,none⟩=some (.slice eo g.es.length ec):=by rw [blk_cell HTIK.out.gx];rfl
  by_cases hlt:k < g.es.length
  case pos =>
   have hgr:=HG.out.keep (show Below w.heap.size w wr by rw [HN0.out];exact HTIK.out.bw)
   have hes:=grv_es hgr
   obtain ⟨A,rfl,q0,q1,q2,q3,q4,q5,q6,-⟩:=hes.get hlt
   have hmem:=List.getElem_mem hlt
   have HTK:=Lh (take_one hlt)
   obtain ⟨x,hx⟩:∃ x,g.es[k]=x:=⟨_,rfl⟩
   rw [hx] at q0 q1 q2 q3 q4 q5 q6 hmem HTK
   have HMEM:=Lh hmem
   have HGR:=Lh hgr
   have c0:wr.cell? ⟨n0,0,none⟩=some (.string Gn):=by rw [blk_cell HTIK.out.gx];rfl
   have c1:wr.cell? ⟨n0,1,none⟩=some (.bool g.dir):=by rw [blk_cell HTIK.out.gx];rfl
   have c2:wr.cell? ⟨n0,2,none⟩=some (.slice no g.ns.length nc):=by rw [blk_cell HTIK.out.gx];rfl
   have c4:wr.cell? ⟨n0,4,none⟩=some (.slice co g.cs.length cc):=by rw [blk_cell HTIK.out.gx];rfl
   have d2:wr.cell? ⟨tb,2,none⟩=some v:=by rw [blk_cell HTIK.out.tb.bx];rfl
   have z0:(0:Int)≤(k:Int):=by omega
   have z1:(k:Int) < (g.es.length:Int):=by omega
   have hDl2:D.length≤1000:=by
    rw [← List.length_map (f:=Sv.s),HTIK.out.tb.ls,List.length_append,List.length_append,List.length_map,List.length_take];omega
   have hty:=blk_lt HTIK.out.tb.bx
   have htl:=HTIK.out.lo
   have HXK:=Lh hx
   clear hmem hx hes hgr
   go_wp2_with fail
   refine tstart (fun W:World=>W.cell? ⟨tb,2,none⟩=some v∧W.cell? ⟨n0,0,none⟩=some (.string Gn)∧W.cell? ⟨n0,1,none⟩=some (.bool g.dir)∧W.cell? ⟨n0,2,none⟩=some (.slice no g.ns.length nc)∧W.cell? ⟨n0,3,none⟩=some (.slice (some A) g.es.length ec)∧W.cell? ⟨n0,4,none⟩=some (.slice co g.cs.length cc)∧W.cell? (A.add (k*7))=some (.int .i64 x.fr)∧W.cell? ⟨(A.add (k*7)).block,(A.add (k*7)).off+1,none⟩=some (.int .i64 x.to)∧W.cell? ⟨(A.add (k*7)).block,(A.add (k*7)).off+2,none⟩=some (.int .i64 x.fp)∧W.cell? ⟨(A.add (k*7)).block,(A.add (k*7)).off+3,none⟩=some (.int .i64 x.tp)∧W.cell? ⟨(A.add (k*7)).block,(A.add (k*7)).off+4,none⟩=some (.string (bb x.lb))∧W.cell? ⟨(A.add (k*7)).block,(A.add (k*7)).off+5,none⟩=some (.int .i64 x.wt)∧W.cell? ⟨(A.add (k*7)).block,(A.add (k*7)).off+6,none⟩=some (.int .i64 x.ln)) 12 (by kernel_rfl) (⟨s_drew d2,s_drew c0,s_drew c1,s_drew c2,s_drew c3,s_drew c4,s_drew q0,s_drew q1,s_drew q2,s_drew q3,s_drew q4,s_drew q5,s_drew q6⟩) (fun hHeld=>?_)
   refine ton 0 61 (.pointer (some ⟨tb,2,none⟩)) ?_
   refine ton 1 62 v ?_
   refine ton 2 63 (.agg #[.string Gn,.bool g.dir,.slice no g.ns.length nc,.slice (some A) g.es.length ec,.slice co g.cs.length cc]) ?_
   refine ton 3 64 (.pointer (some ⟨n0,3,none⟩)) ?_
   refine ton 4 65 (.slice (some A) g.es.length ec) ?_
   refine ton 5 66 (.int .i64 (k:Int)) ?_
   refine ton 6 67 (.pointer (some (A.add (k*7)))) ?_
   refine ton 7 68 (.agg #[.int .i64 x.fr,.int .i64 x.to,.int .i64 x.fp,.int .i64 x.tp,.string (bb x.lb),.int .i64 x.wt,.int .i64 x.ln]) ?_
   try simp only [sA,sB,sC]
   refine tgo (i:=8) (by kernel_rfl) rfl (fun K hK=>?_)
   go_simp
   refine (redge_of g x _ wr.drew (Lh (HGR.out.keep (b_drew wr))) HGV HMEM).mono ?_
   rintro e w8 ⟨hb8,yv,rfl,hvs⟩
   obtain ⟨ro,rc,ao,ac,bo,bc,rfl,hel8⟩:=hvs.ea (HTIK.out.tb.rs.below (b_drew wr)) (show n0+3≤wr.heap.size by omega) hty
   have HB8:=Lh (below_keep hb8 (b_drew wr))
   have hz8:=HB8.out.size
   have HEL:=Lh hel8
   have hti8:=HTIK.out.below HB8.out
   have HRT8:=Lh hti8.tb.rs
   refine hK.out _ _ (fun _=>⟨cell_later' HB8.out d2,cell_later' HB8.out c0,cell_later' HB8.out c1,cell_later' HB8.out c2,cell_later' HB8.out c3,cell_later' HB8.out c4,cell_later' HB8.out q0,cell_later' HB8.out q1,cell_later' HB8.out q2,cell_later' HB8.out q3,cell_later' HB8.out q4,cell_later' HB8.out q5,cell_later' HB8.out q6⟩) (fun hHeld=>?_)
   replace hHeld:=hHeld (by decide)
   clear hK K hb8 hvs hel8
   try simp only [sA,sB,sC]
   refine tgo (i:=9) (by kernel_rfl) rfl (fun K hK=>?_)
   go_simp
   refine hK.out _ _ (fun _=>(by obtain ⟨k0,k1,k2,k3,k4,k5,k6,k7,k8,k9,k10,k11,k12⟩:=hHeld;exact ⟨s_alloc k0,s_alloc k1,s_alloc k2,s_alloc k3,s_alloc k4,s_alloc k5,s_alloc k6,s_alloc k7,s_alloc k8,s_alloc k9,s_alloc k10,s_alloc k11,s_alloc k12⟩)) (fun hHeld=>?_)
   replace hHeld:=hHeld (by decide)
   clear hK K
   try simp only [sA,sB,sC]
   have hkn:=blk_new w8 #[.int .i64 (edgeS g.ns x).kind,.string (bb (edgeS g.ns x).name),.slice ro (edgeS g.ns x).refs.length rc,.slice ao (edgeS g.ns x).attrs.length ac,.slice bo (edgeS g.ns x).body.length bc] 67
   have hba:=al1 w8 (.cells #[.int .i64 (edgeS g.ns x).kind,.string (bb (edgeS g.ns x).name),.slice ro (edgeS g.ns x).refs.length rc,.slice ao (edgeS g.ns x).attrs.length ac,.slice bo (edgeS g.ns x).body.length bc] 67)
   refine tgo (i:=10) (by kernel_rfl) rfl (fun K hK=>?_)
   refine st_rt rfl (.tmp 62) (.tmp 70) rfl (n0+3) tb w8 _ _ D ⟨edgeS g.ns x,.slice ro (edgeS g.ns x).refs.length rc,.slice ao (edgeS g.ns x).attrs.length ac,.slice bo (edgeS g.ns x).body.length bc⟩ (edgeS g.ns x).kind _ _ _ _ rfl w8.heap.size rfl rfl HRT8 HEL (Lh hba) (Lh hkn) (by omega) (by omega) ⟨rfl,rfl,rfl⟩ ?_
   intro gg cap V hrt9 hg9
   have hB9:=grownB hti8.tb.rs.rs hg9.out (by omega)
   have hbx9:=grownK hti8.tb.rs.rs hg9.out hti8.tb.bx (by decide)
   have hgx9:=grownK hti8.tb.rs.rs hg9.out hti8.gx (by decide)
   have hrx9:=grownK hti8.tb.rs.rs hg9.out hti8.rx (by decide)
   have d29:V.cell? ⟨tb,2,none⟩=some v:=by rw [blk_cell hbx9];rfl
   have fz9:V.frozen? ⟨tb,2,none⟩=false:=blk_free hbx9
   have hbw9:=hti8.bw.trans (hB9.mono (by omega))
   have hes9:=grv_es (HG.out.keep (show Below w.heap.size w V by rw [HN0.out];exact hbw9))
   obtain ⟨A9,e9,p0,p1,p2,p3,p4,p5,p6,-⟩:=hes9.get hlt
   cases e9
   rw [HXK.out] at p0 p1 p2 p3 p4 p5 p6
   have hti9:TI w n0 tb #[.string Gn,.bool g.dir,.slice no g.ns.length nc,.slice (some A) g.es.length ec,.slice co g.cs.length cc] Gn g.dir (.slice (some ⟨gg,0,none⟩) (D.length+1) cap) (D ++ [⟨edgeS g.ns x,.slice ro (edgeS g.ns x).refs.length rc,.slice ao (edgeS g.ns x).attrs.length ac,.slice bo (edgeS g.ns x).body.length bc⟩]) ((optS o ++ r.1) ++ (g.es.take (k+1)).map (edgeS g.ns)) (V.setCell ⟨tb,2,none⟩ (.slice (some ⟨gg,0,none⟩) (D.length+1) cap)):=⟨htl,TB.store hbx9 hrt9.out (by rw [List.map_append,hti8.tb.ls,HTK.out,List.map_append,List.append_assoc];rfl),hbw9.setCell (by omega:n0≤tb) _,blk_far hgx9 (by omega) _,blk_far hrx9 (by omega) _⟩
   have HTI2:=Lh hti9
   refine hK.out _ _ (fun _=>⟨d29,by rw [blk_cell hgx9];rfl,by rw [blk_cell hgx9];rfl,by rw [blk_cell hgx9];rfl,by rw [blk_cell hgx9];rfl,by rw [blk_cell hgx9];rfl,p0,p1,p2,p3,p4,p5,p6⟩) (fun hHeld=>?_)
   replace hHeld:=hHeld (by decide)
   clear hK K
   try simp only [sA,sB,sC]
   refine ton 11 72 (.pointer (some ⟨tb,2,none⟩)) ?_
   try simp only [sA,sB,sC]
   refine tgo (i:=12) (by kernel_rfl) rfl (fun K hK=>?_)
   go_simp
   refine hK.out _ _ (fun h=>absurd rfl h) (fun hHeld=>?_)
   clear hK K hHeld
   try simp only [sA,sB,sC]
   refine tdone (by kernel_rfl) ?_ _
   go_wp2
   go_roundw
   case rel=>exact ⟨k+1,_,D ++ [⟨edgeS g.ns x,.slice ro (edgeS g.ns x).refs.length rc,.slice ao (edgeS g.ns x).attrs.length ac,.slice bo (edgeS g.ns x).body.length bc⟩],by go_num,by omega,HTI2.out⟩
   case measure=>simp [intOf];omega
  obtain rfl:k=g.es.length:=by omega
  have HLT:Hid (TI w n0 tb #[.string Gn,.bool g.dir,.slice no g.ns.length nc,.slice eo g.es.length ec,.slice co g.cs.length cc] Gn g.dir v D (treeG g o).body wr):=Lh (by
   have:=HTIK.out
   rw [List.take_length,List.append_assoc,← HR0.out] at this
   exact this)
  clear hk hlt HTIK
  obtain ⟨ve2,hve2⟩:∃ z,validT (treeG g o)=z:=⟨_,rfl⟩
  have HV2:=Lh hve2
  have HR3:Hid ((if ve2≠0 then (emT,ve2) else (treeG g o,0))=(T,E)):=Lh (by rw [← hve2];exact HR2.out)
  obtain ⟨vo,vc,rfl⟩:=HLT.out.tb.rs.rs.form
  have HTV:Hid (TrV wr (.agg #[.string Gn,.bool g.dir,.slice vo D.length vc]) (treeG g o)):=Lh ⟨_,by rw [show tre.bb (treeG g o).name=Gn from HGN.out];rfl,hgn,by
   have:=row_selfL HLT.out.tb.rs.rs.1 (Nat.le_refl _) HLT.out.tb.rs.rs.2 wr (agree.self _ _ _)
   rw [HLT.out.tb.ls] at this;exact this⟩
  have hc:=cnt_tree g o HGV.out
  have d0:wr.cell? ⟨tb,0,none⟩=some (.string Gn):=by rw [blk_cell HLT.out.tb.bx];rfl
  have d1:wr.cell? ⟨tb,1,none⟩=some (.bool g.dir):=by rw [blk_cell HLT.out.tb.bx];rfl
  have d2:wr.cell? ⟨tb,2,none⟩=some (.slice vo D.length vc):=by rw [blk_cell HLT.out.tb.bx];rfl
  clear hve2 HR2
  go_wp2_with fail
  refine (rvalid_huge _ (treeG g o) ve2 wr HTV (by omega) HV2).mono ?_
  rintro e w9 ⟨rfl,hb9⟩
  have HTI9:=Lh (HLT.out.below hb9)
  clear hb9 d0 d1 d2 c3
  by_cases v2:ve2=0
  case neg =>
   have bv2:(ve2 != 0)=true:=by rw [bne_iff_ne];exact v2
   have HE:Hid (T=emT∧E=ve2):=Lh (by have:=HR3.out;rw [if_pos v2] at this;exact ⟨(Prod.mk.inj this).1.symm,(Prod.mk.inj this).2.symm⟩)
   clear v2 HV2 HR3
   have f0:w9.frozen? ⟨n0+2,0,none⟩=false:=blk_free HTI9.out.rx
   have f1:w9.frozen? ⟨n0+2,1,none⟩=false:=blk_free HTI9.out.rx
   have f2:w9.frozen? ⟨n0+2,2,none⟩=false:=blk_free HTI9.out.rx
   have z0:w9.cell? ⟨n0+2,0,none⟩=some (.string ⟨#[]⟩):=by rw [blk_cell HTI9.out.rx];rfl
   have z1:w9.cell? ⟨n0+2,1,none⟩=some (.bool false):=by rw [blk_cell HTI9.out.rx];rfl
   have z2:w9.cell? ⟨n0+2,2,none⟩=some (.slice none 0 0):=by rw [blk_cell HTI9.out.rx];rfl
   go_wp2
   obtain ⟨rfl,rfl⟩:=HE.out
   have hbx:=blk_set3 (HTI9.out.rx) (.string ⟨#[]⟩) (.bool false) (.slice none 0 0)
   have r0:=blk_cell (o:=0) hbx
   have r1:=blk_cell (o:=1) hbx
   have r2:=blk_cell (o:=2) hbx
   refine bodyPost_ret (v:=.tuple #[.agg #[.string ⟨#[]⟩,.bool false,.slice none 0 0],.int .i64 E]) (by simp [results,Tryz.results11,go_sem,r0,r1,r2]) rfl ?_
   exact ⟨_,rfl,em_trv _,by rw [HN0.out];exact below_set3 (HTI9.out.bw) (by omega) _ _ _⟩
  have bv2:(ve2 != 0)=false:=by rw [v2];rfl
  have HE:Hid (T=treeG g o∧E=0):=Lh (by have:=HR3.out;rw [if_neg (by simpa using v2)] at this;exact ⟨(Prod.mk.inj this).1.symm,(Prod.mk.inj this).2.symm⟩)
  clear v2 HV2 HR3
  have d0:w9.cell? ⟨tb,0,none⟩=some (.string Gn):=by rw [blk_cell HTI9.out.tb.bx];rfl
  have d1:w9.cell? ⟨tb,1,none⟩=some (.bool g.dir):=by rw [blk_cell HTI9.out.tb.bx];rfl
  have d2:w9.cell? ⟨tb,2,none⟩=some (.slice vo D.length vc):=by rw [blk_cell HTI9.out.tb.bx];rfl
  have f0:w9.frozen? ⟨n0+2,0,none⟩=false:=blk_free HTI9.out.rx
  have z0:w9.cell? ⟨n0+2,0,none⟩=some (.string ⟨#[]⟩):=by rw [blk_cell HTI9.out.rx];rfl
  have f1:w9.frozen? ⟨n0+2,1,none⟩=false:=blk_free HTI9.out.rx
  have z1:w9.cell? ⟨n0+2,1,none⟩=some (.bool false):=by rw [blk_cell HTI9.out.rx];rfl
  have f2:w9.frozen? ⟨n0+2,2,none⟩=false:=blk_free HTI9.out.rx
  have z2:w9.cell? ⟨n0+2,2,none⟩=some (.slice none 0 0):=by rw [blk_cell HTI9.out.rx];rfl
  go_wp2
  obtain ⟨rfl,rfl⟩:=HE.out
  have hbx:=blk_set3 (HTI9.out.rx) (.string Gn) (.bool g.dir) (.slice vo D.length vc)
  have r0:=blk_cell (o:=0) hbx
  have r1:=blk_cell (o:=1) hbx
  have r2:=blk_cell (o:=2) hbx
  refine bodyPost_ret (v:=.tuple #[.agg #[.string Gn,.bool g.dir,.slice vo D.length vc],.int .i64 0]) (by simp [results,Tryz.results11,go_sem,r0,r1,r2]) rfl ?_
  refine ⟨_,rfl,⟨_,by rw [show tre.bb (treeG g o).name=Gn from HGN.out];rfl,hgn,?_⟩,by rw [HN0.out];exact below_set3 HTI9.out.bw (by omega) _ _ _⟩
  have:=row_selfL HTI9.out.tb.rs.rs.1 (Nat.le_refl _) HTI9.out.tb.rs.rs.2 _ (agree_set3 w9 (.string Gn) (.bool g.dir) (.slice vo D.length vc) (show n0+2 < n0+3 by omega))
  rw [HTI9.out.tb.ls] at this;exact this
end Go.Proofs.YtgmidodmmlmmeaaGreatDoor.xpt
