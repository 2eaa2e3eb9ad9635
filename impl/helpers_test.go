package impl

import (
	"runtime"
	"testing"
	"time"
)

// checkNoGoroutineStays makes calls many times, and expects no more goroutines than before.
func checkNoGoroutineStays(t *testing.T, calls func()) {
	t.Helper()
	before := runtime.NumGoroutine()
	for range 20 {
		calls()
	}
	// One that has done all that is asked of it may take a moment to end.
	for range 200 {
		if runtime.NumGoroutine() <= before {
			return
		}
		time.Sleep(10 * time.Millisecond)
	}
	t.Errorf("%d goroutines instead of %d", runtime.NumGoroutine(), before)
}
