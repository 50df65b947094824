package run

import (
	"testing"
)

// Promise 5.2: what is done when a state is entered: Enter, Strong ways with
// Now, what is inside, other ways with Now.
func TestEntered(t *testing.T) {
	// All of it, and none of its ways is open.
	runs(t, "initial state s { during !9; entry !1; entry !2; region { initial state p { entry !3; } } region { initial state q { entry !4; } } abort immediate if a --> u; go immediate if a --> u; } state u;",
		": 1234 s p q", ": 9 s p q")
	// A strong way is open: nothing inside is entered, nor left.
	runs(t, "initial state s { entry !1; exit !2; abort immediate if a do !3 --> u; region { initial state p { entry !8; exit !9; } } } state u { entry !4; }",
		"1: 1234 u", ": 0 u")
	// A weak one: what is inside is entered, and left.
	runs(t, "initial state s { entry !1; exit !4; go immediate if a do !5 --> u; region { initial state p { entry !2; exit !3; } } } state u { entry !6; }",
		"1: 123456 u", ": 0 u")
	// The strong one stands behind the weak one, and is asked ahead of it.
	runs(t, "initial state s { go immediate --> p; abort immediate --> q; } state p; state q;", ": 0 q")
	runs(t, "initial state s { go immediate --> p; abort immediate if a --> q; } state p; state q;", ": 0 p")
	runs(t, "initial state s { go immediate --> p; abort --> q; } state p; state q;", ": 0 p")
}

// Promise 5.2: the first one that is open, in order, and no other one.
func TestFirstOpen(t *testing.T) {
	for _, word := range []string{"go", "abort"} {
		for _, now := range []string{" immediate", ""} {
			lead := word + now
			s := "initial state s { go --> z; } state z { " + lead + " if a == 1 do !1 --> p; " + lead + " if a do !2 --> q; " + lead + " if b do !3 --> p; } state p { entry !4; } state q { entry !5; }"
			if now == "" {
				runs(t, s, ": 0 s", ": 0 z", "0 0: 0 z", "1 1: 14 p")
				runs(t, s, ": 0 s", ": 0 z", "2 1: 25 q")
				runs(t, s, ": 0 s", "1 1: 0 z", "0 1: 34 p")
				continue
			}
			runs(t, s, ": 0 s", "1 1: 14 p")
			runs(t, s, ": 0 s", "2 1: 25 q")
			runs(t, s, ": 0 s", "0 1: 34 p")
			runs(t, s, ": 0 s", ": 0 z", "0 1: 34 p")
		}
	}
}

// Promise 5.2: what Enter sets, and what is done inside, a way at once sees.
func TestEnterIsSeen(t *testing.T) {
	runs(t, "initial state s { entry v := 1; abort immediate if v --> p; } state p;", ": 0 p")
	runs(t, "initial state s { abort immediate if v --> p; region { initial state q { entry v := 1; } } } state p;", ": 0 s q", ": 0 p")
	runs(t, "initial state s { go immediate if v --> p; region { initial state q { entry v := 1; } } } state p;", ": 0 p")
}

// Promise 5.2: ways without Now are not asked when a state is entered; what is
// entered does not go on in that tick.
func TestNotAtOnce(t *testing.T) {
	runs(t, "initial state s { entry !1; during !2; exit !3; go do !4 --> p; } state p { entry !5; during !6; abort do !7 --> q; } state q { entry !8; }",
		": 1 s", ": 2345 p", ": 78 q", ": 0 q")
	// The region inside that was entered by a way there goes on a tick later.
	runs(t, "initial state s { region { initial state p { go --> q; } state q { entry !1; during !2; go --> p; } } }",
		": 0 s p", ": 1 s q", ": 2 s p", ": 1 s q")
}

// Promise 5.2: from way to way at once, in one tick.
func TestChain(t *testing.T) {
	runs(t, "initial state s { entry !1; go immediate do !2 --> p; } state p { entry !3; exit !4; abort immediate if a do !5 --> q; go if b --> s; } state q { entry !6; go immediate --> r; } state r { entry !7; }",
		"1: 1234567 r", "1: 0 r")
	runs(t, "initial state s { entry !1; go immediate do !2 --> p; } state p { entry !3; exit !4; abort immediate if a do !5 --> q; go if b --> s; } state q { entry !6; go immediate --> r; } state r { entry !7; }",
		": 123 p", "0 1: 4123 p", "0 1: 4123 p", "1: 4567 r")
	// Inside first: there the ways at once are gone before those around.
	runs(t, "initial state s { go immediate if v == 2 do !9 --> p; region { initial state q { entry !1; go immediate do v := v + 1 --> r; } state r { entry !2; go immediate do v := v + 1 --> u; } state u { entry !3; exit !4; } } } state p;",
		": 12349 p")
	// Of two regions inside the second one is entered behind the first one's ways.
	runs(t, "initial state s { region { initial state q { entry !1; go immediate --> r; } state r { entry !2; } } region { initial state q { entry !3; abort immediate --> r; } state r { entry !4; } } }",
		": 1234 s r r")
}

// Promise 5.2: back to what was: all the way down, or from the first one on.
func TestBack(t *testing.T) {
	inside := "region { initial state p { go if a == 1 --> q; } state q { region { initial state m { go if a == 2 --> n; } state n { go if a == 1 --> m; } } } }"
	s := "initial state s { " + inside + " go if a == 3 --> u; } state u { go if b == 1 --> s; go if b == 2 --> s history; }"
	// Nothing was there yet.
	runs(t, "initial state o { go --> s history; } state s { "+inside+" }", ": 0 o", ": 0 s p")
	runs(t, s, ": 0 s p", "3: 0 u", "0 2: 0 s p")
	// What was there is there again, and what was in it.
	runs(t, s, ": 0 s p", "1: 0 s q m", "2: 0 s q n", "3: 0 u", "0 2: 0 s q n", "3: 0 u", "0 2: 0 s q n")
	// Not back: the first ones; what was is what was left last.
	runs(t, s, ": 0 s p", "1: 0 s q m", "2: 0 s q n", "3: 0 u", "0 1: 0 s p", "3: 0 u", "0 2: 0 s p")
	// Not back into q: the first one in it, though n was there.
	runs(t, s, ": 0 s p", "1: 0 s q m", "2: 0 s q n", "3: 0 u", "0 1: 0 s p", "1: 0 s q m")
	// Not back, and the first one has something inside: there, too.
	runs(t, "initial state s { region { initial state p { region { initial state m { go if a == 1 --> n; } state n; } } } go if a == 3 --> u; } state u { go --> s; }",
		": 0 s p m", "1: 0 s p n", "3: 0 u", ": 0 s p m")
	// A state's way to itself.
	runs(t, "initial state s { "+inside+" go if b == 1 --> s; go if b == 2 --> s history; }", ": 0 s p", "1: 0 s q m", "2: 0 s q n", "0 2: 0 s q n", "0 1: 0 s p")
}

// Promise 5.2: each region goes back to what was in it, or begins.
func TestBackByRegion(t *testing.T) {
	runs(t, "initial state s { region { initial state p { go if a == 1 --> q; } state q { entry !1; exit !2; } } region { initial state p { entry !3; exit !4; go if a == 2 --> r; } state r { entry !5; exit !6; } } go if a == 3 --> u; } state u { go --> s history; }",
		": 3 s p p", "1: 1 s q p", "3: 24 u", ": 13 s q p", "2: 45 s q r", "3: 26 u", ": 15 s q r")
}

// Promise 5.2: a way at once that does not go back ends it; what was stays
// what was as long as nothing there is left.
func TestBackThenAtOnce(t *testing.T) {
	deep := "region { initial state p { go if a == 1 --> q; } state q; }"
	runs(t, "initial state s { "+deep+" go if a == 3 --> u; } state u { go if b == 1 --> w history; go if b == 2 --> s; } state w { go immediate --> s; }",
		": 0 s p", "1: 0 s q", "3: 0 u", "0 1: 0 s p")
	runs(t, "initial state s { "+deep+" go if a == 3 --> u; } state u { go if b == 1 --> w; } state w { go immediate --> s history; }",
		": 0 s p", "1: 0 s q", "3: 0 u", "0 1: 0 s q")
	// Entered, not back, but left ahead of what is inside: q WAS there still.
	runs(t, "initial state s { abort immediate if b --> w; "+deep+" go if a == 3 --> u; } state u { go --> s; } state w { go --> s history; }",
		": 0 s p", "1: 0 s q", "3: 0 u", "0 1: 0 w", ": 0 s q")
	// Within, too: who goes from state to state was there.
	runs(t, "initial state o { region { initial state s { "+deep+" go if a == 3 --> u; } state u { go if b --> s history; } } }",
		": 0 o s p", "1: 0 o s q", "3: 0 o u", "0 1: 0 o s q")
}

// Promise 5.2: what is back again is entered: Enter is done, ways at once are
// asked, and what was may be left again.
func TestBackIsEntered(t *testing.T) {
	runs(t, "initial state s { entry !1; region { initial state p { go if a == 1 --> q; } state q { entry !2; go immediate if b == 2 do !3 --> r; } state r { entry !4; } } go if a == 3 --> u; } state u { go if b --> s history; }",
		": 1 s p", "1: 2 s q", "3: 0 u", "0 1: 12 s q", "3: 0 u", "0 2: 1234 s r", "3: 0 u", "0 2: 14 s r")
}

// Promise 5.3: what is there goes on: Strong ways, with Now or not, ahead of
// all; During; what is inside; other ways, with Now or not.
func TestGoesOn(t *testing.T) {
	s := "initial state s { during !1; during !2; exit !6; region { initial state p { during !3; exit !5; } } region { initial state q { during !4; } } abort if a == 1 do !7 --> u; abort immediate if a == 2 do !8 --> u; go if a == 3 do !7 --> u; go immediate if a == 4 do !8 --> u; } state u { entry !9; }"
	runs(t, s, ": 0 s p q", ": 1234 s p q", "1: 5679 u")
	runs(t, s, ": 0 s p q", "2: 5689 u")
	runs(t, s, ": 0 s p q", "3: 12345679 u")
	runs(t, s, ": 0 s p q", "4: 12345689 u")
	// The first one that is open, whether it is with Now or not.
	runs(t, "initial state s { go if a --> p; go immediate if b --> q; } state p; state q;", ": 0 s", "1 1: 0 p")
	runs(t, "initial state s { go immediate if b --> q; go if a --> p; } state p; state q;", ": 0 s", "1 1: 0 q")
	runs(t, "initial state s { abort if a --> p; abort immediate if b --> q; } state p; state q;", ": 0 s", "1 1: 0 p")
	runs(t, "initial state s { go if a --> p; abort if b --> q; } state p; state q;", ": 0 s", "1 1: 0 q")
}

// Promise 5.3: what is done in the tick, and inside, a weak way sees, and a
// strong one does not.
func TestWeakAndStrong(t *testing.T) {
	runs(t, "initial state s { during v := v + 1; go if v == 2 --> p; } state p;", ": 0 s", ": 0 s", ": 0 p")
	runs(t, "initial state s { during v := v + 1; abort if v == 2 --> p; } state p;", ": 0 s", ": 0 s", ": 0 s", ": 0 p")
	// Both take a way in one tick: the inner one first.
	runs(t, "initial state s { go if a do !5 --> u; exit !4; region { initial state p { go if a do !1 --> q; } state q { entry !2; exit !3; } } } state u { entry !6; }",
		": 0 s p", "1: 123456 u")
	// A strong one ahead: nothing goes on inside.
	runs(t, "initial state s { abort if a do !5 --> u; exit !4; region { initial state p { exit !3; go if a do !1 --> q; } state q { entry !2; } } } state u { entry !6; }",
		": 0 s p", "1: 3456 u")
}

// Promise 5.3: a state that rests takes strong ways alone, and nothing goes on
// in it; around it all goes on.
func TestRests(t *testing.T) {
	runs(t, "initial state s { during !1; suspend a; go if b == 1 --> u; abort if b == 2 --> u; region { initial state p { during !2; abort if b == 3 --> q; } state q; } } state u;",
		"1: 0 s p", "1 0: 0 s p", "1 1: 0 s p", "1 3: 0 s p", "0: 12 s p", "1 2: 0 u")
	runs(t, "initial state s { during !1; go if b --> u; region { initial state p { suspend a; during !2; } } region { initial state q { during !3; } } } state u { entry !4; }",
		": 0 s p q", ": 123 s p q", "1: 13 s p q", "1 1: 134 u")
	// What rests is asked behind the strong ways, and ahead of During; entering does not ask it.
	runs(t, "initial state s { entry !1; suspend v == 1; during v := v + 1, !2; region { initial state p { entry !3; during !4; } } go immediate if b --> u; } state u;",
		": 13 s p", ": 24 s p", ": 0 s p", "0 1: 0 s p")
	runs(t, "initial state s { entry !1; suspend 1; region { initial state p { entry !2; } } go immediate if b --> u; } state u { entry !3; }", "0 1: 123 u")
	// Below 0 is not 0.
	runs(t, "initial state s { suspend a; during !1; }", ": 0 s", "-1: 0 s", "0: 1 s")
}

// Promise 5.4: who joins waits for a last state in each region.
func TestJoin(t *testing.T) {
	two := "region { initial state p { go if a == 1 --> f; } final state f; } region { initial state q { go if a == 2 --> g; } state h; final state g; final state k; }"
	runs(t, "initial state s { join do !1 --> u; "+two+" } state u;", ": 0 s p q", "1: 0 s f q", ": 0 s f q", "2: 1 u")
	runs(t, "initial state s { join if b do !1 --> u; "+two+" } state u;", "0 1: 0 s p q", "1 1: 0 s f q", "2 0: 0 s f g", ": 0 s f g", "0 1: 1 u")
	// In the tick in which it is over, and behind weak ways that stand ahead.
	runs(t, "initial state s { go if b --> w; join --> u; region { initial state p { go if a --> f; } final state f; } } state u; state w;", ": 0 s p", "1 1: 0 w")
	runs(t, "initial state s { join --> u; go if b --> w; region { initial state p { go if a --> f; } final state f; } } state u; state w;", ": 0 s p", "1 1: 0 u")
	runs(t, "initial state s { join --> u; abort if b --> w; region { initial state p { go if a --> f; } final state f; } } state u; state w;", ": 0 s p", "1 1: 0 w")
	// What is around a region that is not over is not over either, whatever is deeper inside.
	runs(t, "initial state s { join --> u; region { initial state p { region { initial final state f; } } } } state u;", ": 0 s p f", ": 0 s p f")
	runs(t, "initial state s { join --> u; region { initial state p { join --> g; region { initial final state f; } } final state g; } } state u;", ": 0 s p f", ": 0 u")
}

// Promise 5.4: a join at once, and what is last at first.
func TestJoinAtOnce(t *testing.T) {
	runs(t, "initial state s { join immediate do !1 --> u; region { initial final state f { entry !2; exit !3; during !4; } } } state u;", ": 231 u")
	runs(t, "initial state s { join --> u; region { initial final state f { entry !2; exit !3; during !4; } } } state u;", ": 2 s f", ": 43 u")
	runs(t, "initial state s { join immediate --> u; region { initial state p { go immediate if a --> f; } final state f; } } state u;", "1: 0 u")
	runs(t, "initial state s { join immediate --> u; region { initial state p { go if a --> f; } final state f; } } state u;", "1: 0 s p", "1: 0 u")
	// A way that is no join asks nothing of what is inside.
	runs(t, "initial state s { go if a --> u; abort if b --> u; region { initial state p; } } state u;", ": 0 s p", "1: 0 u")
	runs(t, "initial state s { go if a --> u; abort if b --> u; region { initial state p; } } state u;", ": 0 s p", "0 1: 0 u")
	// A last state rests, and goes on, as others do.
	runs(t, "initial state s { join if b --> u; region { initial final state f { suspend a; during !1; } } } state u;", ": 0 s f", ": 1 s f", "1: 0 s f", "1 1: 0 u")
}

// Promise 5.4: a way is open whatever When comes to but 0.
func TestWhen(t *testing.T) {
	runs(t, "initial state s { go if a --> p; } state p { go --> s; }", "1: 0 s", "-7: 0 p", "0: 0 s", "0: 0 s", "9: 0 p")
	runs(t, "initial state s { go if pre(a) && !a --> p; } state p;", "1: 0 s", "1: 0 s", ": 0 p")
	runs(t, "initial state s { go if 0 --> p; go if a / b --> p; } state p;", "1: 0 s", "1 0: 0 s", "1 2: 0 s", "2 1: 0 p")
}

// Promise 5.4: a way that counts is open when it was so for the n-th time;
// between them it may be not so.
func TestCount(t *testing.T) {
	for _, word := range []string{"go", "abort"} {
		runs(t, "initial state s { "+word+" if count 3 a --> p; } state p;", "1: 0 s", "1: 0 s", ": 0 s", "1: 0 s", ": 0 s", ": 0 s", "5: 0 p")
		runs(t, "initial state s { "+word+" if count 1 a --> p; } state p;", "1: 0 s", ": 0 s", "1: 0 p")
		runs(t, "initial state s { "+word+" if count 2 1 --> s; entry !1; }", ": 1 s", ": 0 s", ": 1 s", ": 0 s", ": 1 s")
	}
	// Each way counts for itself.
	runs(t, "initial state s { go if count 2 a --> p; go if count 2 b --> q; } state p; state q;", ": 0 s", "1 0: 0 s", "0 1: 0 s", "0 1: 0 q")
	runs(t, "initial state s { go if count 3 a --> p; go if count 2 a --> q; } state p; state q;", ": 0 s", "1: 0 s", "1: 0 q")
	runs(t, "initial state s { go if count 2 a --> p; go if count 2 a --> q; } state p; state q;", ": 0 s", "1: 0 s", "1: 0 p")
}

// Promise 5.4: it counts from the entering on: also if it is back, or a way
// led from it to itself, or it was inside.
func TestCountsAnew(t *testing.T) {
	runs(t, "initial state s { go if count 2 a --> p; go if b --> s; } state p;", ": 0 s", "1: 0 s", "0 1: 0 s", "1: 0 s", "1: 0 p")
	runs(t, "initial state s { go if b --> u; region { initial state m { go if count 2 a --> n; } state n; } } state u { go --> s history; }",
		": 0 s m", "1: 0 s m", "0 1: 0 u", ": 0 s m", "1: 0 s m", "1: 0 s n")
	runs(t, "initial state s { go if count 2 a --> p; } state p { go --> s; }", ": 0 s", "1: 0 s", "1: 0 p", "1: 0 s", "1: 0 s", "1: 0 p")
	// Others go to and fro: it counts on.
	runs(t, "initial state s { go if count 3 a --> p; region { initial state m { go --> n; } state n { go --> m; } } } state p;",
		": 0 s m", "1: 0 s n", "1: 0 s m", "1: 0 p")
}

// Promise 5.4: it counts where it is asked alone, and found so.
func TestCountsAsked(t *testing.T) {
	// A weak one is not asked of what rests; a strong one is.
	runs(t, "initial state s { suspend b; go if count 2 a --> p; } state p;", ": 0 s", "1 1: 0 s", "1 1: 0 s", "1 0: 0 s", "1 1: 0 s", "1 0: 0 p")
	runs(t, "initial state s { suspend b; abort if count 2 a --> p; } state p;", ": 0 s", "1 1: 0 s", "1 1: 0 p")
	// What is around rests: inside nobody is asked.
	runs(t, "initial state s { suspend b; region { initial state m { abort if count 2 a --> n; } state n; } }", ": 0 s m", "1 1: 0 s m", "1 0: 0 s m", "1 1: 0 s m", "1: 0 s n")
	// A join is so when it is over, too.
	runs(t, "initial state s { join if count 2 1 --> u; region { initial state p { go if a --> f; } final state f; } } state u;", ": 0 s p", ": 0 s p", ": 0 s p", "1: 0 s f", ": 0 u")
	runs(t, "initial state s { join if count 2 b --> u; region { initial state p { go if a --> f; go if b --> p; } final state f; } } state u;",
		": 0 s p", "0 1: 0 s p", "0 1: 0 s p", "1 0: 0 s f", "0 1: 0 s f", ": 0 s f", "0 1: 0 u")
}

// Promise 5.4: a way is taken: what is there is left, what is inside ahead of
// it, region by region; its sets; where it leads.
func TestTaken(t *testing.T) {
	runs(t, "initial state s { exit !4; go if a do !5, !6 --> u; region { initial state p { exit !2; region { initial state m { exit !1; } } } } region { initial state q { exit !3; } } } state u { entry !7; region { initial state w { entry !8; } } }",
		": 0 s p m q", "1: 12345678 u w")
	// What was left is not there any more: it is not left again.
	runs(t, "initial state s { exit !2; abort immediate if b --> u; go if a --> u; region { initial state p { exit !1; } } } state u { go --> s; }",
		": 0 s p", "1: 12 u", "0 1: 2 u", ": 0 s p")
	// Its region alone is left.
	runs(t, "initial state s { exit !9; region { initial state p { exit !1; go if a do !2 --> q; } state q { entry !3; } } region { initial state q { exit !8; } } }",
		": 0 s p q", "1: 123 s q q")
	// To itself: left, and entered.
	runs(t, "initial state s { entry !1; exit !2; during !3; go if a do !4 --> s; }", ": 1 s", "1: 3241 s", ": 3 s")
	// Leave sees what is so ahead of the way's sets, and Enter what is so behind them.
	runs(t, "initial state s { exit x := v; go do v := 5 --> p; } state p { entry t := v * 10 + x; }", ": 0 s", ": 50 p")
}
