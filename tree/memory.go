package tree

import (
	"slices"
)

// Memory is blocks in memory, those with the numbers 0 to Room - 1; At's keys are the ones in use.
type Memory struct {
	Room int
	At   map[int][]byte
}

// NewMemory answers blocks in memory, none in use.
func NewMemory(room int) *Memory {
	return &Memory{Room: room, At: map[int][]byte{}}
}

// Used answers how many are in use.
func (m *Memory) Used() int {
	return len(m.At)
}

// Read answers what was written last to the block; nothing, if it isn't in use.
func (m *Memory) Read(n int) []byte {
	return slices.Clone(m.At[n])
}

// Write puts a block's contents; where there is no such block it does nothing.
func (m *Memory) Write(n int, b []byte) {
	if n >= 0 && n < m.Room {
		m.set(n, slices.Clone(b))
	}
}

// Take answers the least block that isn't in use, and it is in use then.
func (m *Memory) Take() (int, bool) {
	for n := range m.Room {
		if _, used := m.At[n]; !used {
			m.set(n, nil)
			return n, true
		}
	}
	return 0, false
}

// Give makes the block free.
func (m *Memory) Give(n int) {
	delete(m.At, n)
}

// set makes the map where it is wanting, for a Memory may have been written down without one.
func (m *Memory) set(n int, b []byte) {
	if m.At == nil {
		m.At = map[int][]byte{}
	}
	m.At[n] = b
}
